/-
  package token: an attribute.
-/
import Derived.Test.YtlpjealcmnnbnaaGreatDoorTkV
namespace Go.Proofs.YtlpjealcmnnbnaaGreatDoor
open Go.RowKit Tk

/-- How a call of a method stands: its own block D, the text's block T below it. -/
structure Sk (T D : Nat) (td : TypeId) (ds : Array Value) (w W : World) : Prop where
  tn : Tn T D w W
  bk : Bk W D td ds
  env : Env T W
  lt : T < D
theorem Sk.start {T : Nat} {w : World} (td : TypeId) (ds : Array Value) (h : Env T w) (hT : T < w.heap.size) : Sk T w.heap.size td ds w (w.alloc (.cells ds td)) :=
  ⟨(Tn.refl _ _ _).alloc (Nat.le_refl _) _, Bk.new w _ _, h.tn ((Tn.refl _ _ _).alloc (Nat.le_refl _) _) hT, hT⟩
theorem Sk.step {T D : Nat} {td : TypeId} {ds : Array Value} {w W W' : World} (h : Sk T D td ds w W) (k : Tn T W.heap.size W W') : Sk T D td ds w W' :=
  ⟨h.tn.then k (Nat.le_of_lt h.bk.lt), k.bk h.bk h.bk.lt (by have := h.lt; omega), h.env.tn k (Nat.lt_trans h.lt h.bk.lt), h.lt⟩
theorem Sk.belo {T D : Nat} {td : TypeId} {ds : Array Value} {w W W' : World} (h : Sk T D td ds w W) (k : Below W.heap.size W W') : Sk T D td ds w W' := h.step (.of k)
theorem empty_bts (l : List UInt8) : (bts l).toList.isEmpty = l.isEmpty := by rw [ByteArray.toList_mk]

/-- what an attribute answers -/
def AttOut (T : Nat) (s : ByteArray) (o : Option (Att × List UInt8)) (e : Ending) (w' : World) : Prop := match o with
  | some p => e = .returned (.tuple #[.agg #[.string (bts p.1.1), .string (bts p.1.2)], .bool true]) ∧ TX 35 w' T s p.2
  | none => ∃ u v r, e = .returned (.tuple #[.agg #[.string u, .string v], .bool false]) ∧ TX 35 w' T s r
theorem AttOut.of {T : Nat} {s : ByteArray} {r n x r6 : List UInt8} {y nn : ByteArray} {A N I ok : Bool} {e : Ending} {w' : World} (hn : bts n = nn)
    (h1 : (A || N || !I || !ok) = true → attrL r = none) (h2 : A = false → N = false → I = true → ok = true → attrL r = some ((n, x), r6) ∧ bts x = y)
    (he : e = .returned (.tuple #[.agg #[.string nn, .string y], .bool (!A && (!N && (I && ok)))])) (ht : TX 35 w' T s r6) : AttOut T s (attrL r) e w' := by
  by_cases hb : (A || N || !I || !ok) = true
  · rw [h1 hb]
    refine ⟨nn, y, r6, ?_, ht⟩
    rw [he]
    have : (!A && (!N && (I && ok))) = false := by revert hb; cases A <;> cases N <;> cases I <;> cases ok <;> simp
    rw [this]
  · have : A = false ∧ N = false ∧ I = true ∧ ok = true := by revert hb; cases A <;> cases N <;> cases I <;> cases ok <;> simp
    obtain ⟨rfl, rfl, rfl, rfl⟩ := this
    obtain ⟨h3, h4⟩ := h2 rfl rfl rfl rfl
    rw [h3]
    exact ⟨by rw [he, ← hn, ← h4]; rfl, ht⟩
theorem attr_none {r : List UInt8} {A N I ok : Bool} (hA : (r.takeWhile bl).isEmpty = A) (hN : (nameL (r.dropWhile bl)).1.isEmpty = N) (hI : [61].isPrefixOf ((nameL (r.dropWhile bl)).2.dropWhile bl) = I)
    (hv : ok = false → valL ((over [61] ((nameL (r.dropWhile bl)).2.dropWhile bl)).dropWhile bl) = none) (h : (A || N || !I || !ok) = true) : attrL r = none := by
  unfold attrL
  cases hA0 : (r.takeWhile bl).isEmpty with
  | true => rw [if_pos (List.isEmpty_iff.1 hA0)]
  | false =>
    rw [if_neg (fun e => by rw [e] at hA0; cases hA0)]
    unfold attrB
    cases hN0 : (nameL (r.dropWhile bl)).1.isEmpty with
    | true => rw [if_pos (List.isEmpty_iff.1 hN0)]
    | false =>
      rw [if_neg (fun e => by rw [e] at hN0; cases hN0)]
      rcases one_prefix 61 ((nameL (r.dropWhile bl)).2.dropWhile bl) with ⟨hp, t, e, ho⟩ | ⟨hp, ho, hne⟩
      · rw [e]
        simp only
        rw [hA0] at hA
        rw [hN0] at hN
        rw [hp] at hI
        subst hA hN hI
        have hok : ok = false := by simpa using h
        have := hv hok
        rw [ho] at this
        rw [this]
        rfl
      · split
        · rename_i e; exact absurd e (hne _)
        · rfl
theorem attr_some {r x r6 : List UInt8} (hA : (r.takeWhile bl).isEmpty = false) (hN : (nameL (r.dropWhile bl)).1.isEmpty = false) (hI : [61].isPrefixOf ((nameL (r.dropWhile bl)).2.dropWhile bl) = true)
    (hv : valL ((over [61] ((nameL (r.dropWhile bl)).2.dropWhile bl)).dropWhile bl) = some (x, r6)) : attrL r = some (((nameL (r.dropWhile bl)).1, x), r6) := by
  unfold attrL
  rw [if_neg (fun e => by rw [e] at hA; cases hA)]
  unfold attrB
  rw [if_neg (fun e => by rw [e] at hN; cases hN)]
  rcases one_prefix 61 ((nameL (r.dropWhile bl)).2.dropWhile bl) with ⟨hp, t, e, ho⟩ | ⟨hp, ho, hne⟩
  · rw [ho] at hv
    rw [e]
    simp only
    rw [hv]
    rfl
  · rw [hp] at hI; cases hI
set_option maxHeartbeats 4000000 in
set_option maxRecDepth 100000 in
theorem attr_any (T : Nat) (s : ByteArray) (r : List UInt8) (w : World) (h : TX 35 w T s r) (hs : s.size ≤ 100000000) (hE : Env T w) :
    Calls Tryz.prog 53 #[.pointer (some ⟨T, 0, none⟩)] w fun e w' => AttOut T s (attrL r) e w' ∧ Tn T w.heap.size w w' := by
  have HRU := Lib.hid (fun (l : List UInt8) (W : World) (a : TX 35 W T s l) => run_any T s _ bl l W a hs (asks_blank T W))
  have HNA := Lib.hid (fun (l : List UInt8) (W : World) (a : TX 35 W T s l) => name_any T s l W a hs)
  have HOV := Lib.hid (fun (l : List UInt8) (W : World) (a : TX 35 W T s l) => over_any T s ⟨#[61]⟩ l W a hs (by show 1 ≤ 1000; omega))
  have HVA := Lib.hid (fun (l : List UInt8) (W : World) (a : TX 35 W T s l) (b : Env T W) => value_any T s l W a hs b)
  have S0 := Lib.hid (Sk.start 48 #[.string ⟨#[]⟩, .string ⟨#[]⟩] hE h.lt)
  have T0 := Lib.hid (h.alloc (.cells #[.string ⟨#[]⟩, .string ⟨#[]⟩] 48))
  obtain ⟨bb, hbb⟩ : ∃ bb, bts (r.takeWhile bl) = bb := ⟨_, rfl⟩
  have hA := empty_bts (r.takeWhile bl)
  rw [hbb] at hA
  obtain ⟨A, hA1⟩ : ∃ A, (r.takeWhile bl).isEmpty = A := ⟨_, rfl⟩
  rw [hA1] at hA
  obtain ⟨nn, hnn⟩ : ∃ nn, bts (nameL (r.dropWhile bl)).1 = nn := ⟨_, rfl⟩
  have hN := empty_bts (nameL (r.dropWhile bl)).1
  rw [hnn] at hN
  obtain ⟨N, hN1⟩ : ∃ N, (nameL (r.dropWhile bl)).1.isEmpty = N := ⟨_, rfl⟩
  rw [hN1] at hN
  obtain ⟨I, hI1⟩ : ∃ I, [61].isPrefixOf ((nameL (r.dropWhile bl)).2.dropWhile bl) = I := ⟨_, rfl⟩
  have HA1 := Lib.hid hA1
  have HN1 := Lib.hid hN1
  have HI1 := Lib.hid hI1
  have HNN := Lib.hid hnn
  have HBB := Lib.hid hbb
  obtain ⟨Q, hQ⟩ : ∃ Q, w.heap.size = Q := ⟨_, rfl⟩
  have HQ := Lib.hid hQ
  clear h hE hbb hnn hA1 hN1 hI1 hQ
  go_enter Tryz.func53, Tryz.ntmps53
  go_wp2_with fail
  refine (HRU.out r _ T0.out).mono ?_
  rintro e w1 ⟨rfl, t1, n1⟩
  have T1 := Lib.hid t1
  have S1 := Lib.hid (S0.out.step n1)
  clear t1 n1
  rw [HBB.out]
  go_wp2_with fail
  refine (HNA.out _ w1 T1.out).mono ?_
  rintro e w2 ⟨rfl, t2, n2⟩
  have T2 := Lib.hid t2
  have S2 := Lib.hid (S1.out.step n2)
  clear t2 n2
  rw [HNN.out]
  go_wp2_with fail
  refine (HRU.out _ w2 T2.out).mono ?_
  rintro e w3 ⟨rfl, t3, n3⟩
  have T3 := Lib.hid t3
  have S3 := Lib.hid (S2.out.step n3)
  clear t3 n3
  go_wp2_with fail
  refine (HOV.out _ w3 T3.out).mono ?_
  rintro e w4 ⟨rfl, t4, n4⟩
  have T4 := Lib.hid t4
  have S4 := Lib.hid (S3.out.step n4)
  clear t4 n4
  rw [HI1.out]
  go_wp2_with fail
  refine (HRU.out _ w4 T4.out).mono ?_
  rintro e w5 ⟨rfl, t5, n5⟩
  have T5 := Lib.hid t5
  have S5 := Lib.hid (S4.out.step n5)
  clear t5 n5
  go_wp2_with fail
  refine (HVA.out _ w5 T5.out S5.out.env).mono ?_
  rintro e w6 ⟨v6, n6⟩
  have S6 := Lib.hid (S5.out.step n6)
  have HFin : Hid (∃ (ok : Bool) (y : ByteArray) (r6 x : List UInt8), e = .returned (.tuple #[.string y, .bool ok]) ∧ TX 35 w6 T s r6 ∧ ((A || N || !I || !ok) = true → attrL r = none) ∧ (A = false → N = false → I = true → ok = true → attrL r = some (((nameL (r.dropWhile bl)).1, x), r6) ∧ bts x = y)) := by
    cases hv : valL ((over [61] ((nameL (r.dropWhile bl)).2.dropWhile bl)).dropWhile bl) with
    | none =>
      rw [hv] at v6
      obtain ⟨u, r6, rfl, t6⟩ := v6
      exact ⟨false, u, r6, [], rfl, t6, attr_none HA1.out HN1.out HI1.out (fun _ => hv), fun _ _ _ h => by cases h⟩
    | some p =>
      obtain ⟨x, r6⟩ := p
      rw [hv] at v6
      obtain ⟨rfl, t6⟩ := v6
      refine ⟨true, bts x, r6, x, rfl, t6, attr_none HA1.out HN1.out HI1.out (fun h => by cases h), fun a b c _ => ⟨attr_some ?_ ?_ ?_ hv, rfl⟩⟩
      · rw [HA1.out]; exact a
      · rw [HN1.out]; exact b
      · rw [HI1.out]; exact c
  clear v6 n6
  obtain ⟨ok, y, r6, x, rfl, t6, f1, f2⟩ := HFin.out
  have HF := Lib.hid (fun (e : Ending) (W : World) he ht => AttOut.of (T := T) (s := s) (e := e) (w' := W) HNN.out f1 f2 he ht)
  have T6 := Lib.hid t6
  have c0 : w6.cell? ⟨w.heap.size, 0, none⟩ = some (.string ⟨#[]⟩) := S6.out.bk.cell 0
  have c1 : w6.cell? ⟨w.heap.size, 1, none⟩ = some (.string ⟨#[]⟩) := S6.out.bk.cell 1
  have g0 : w6.frozen? ⟨w.heap.size, 0, none⟩ = false := S6.out.bk.free 0
  have g1 : w6.frozen? ⟨w.heap.size, 1, none⟩ = false := S6.out.bk.free 1
  have K6 := Lib.hid (S6.out.bk.two (.string nn) (.string y))
  have N6 : Hid (Tn T w.heap.size w ((w6.setCell ⟨w.heap.size, 0, none⟩ (.string nn)).setCell ⟨w.heap.size, 1, none⟩ (.string y))) := (S6.out.tn.setHigh (p := ⟨w.heap.size, 0, none⟩) (Nat.le_refl _) _).setHigh (p := ⟨w.heap.size, 1, none⟩) (Nat.le_refl _) _
  have X6 : Hid (TX 35 ((w6.setCell ⟨w.heap.size, 0, none⟩ (.string nn)).setCell ⟨w.heap.size, 1, none⟩ (.string y)) T s r6) := (t6.far (p := ⟨w.heap.size, 0, none⟩) (by have := S6.out.lt; show T ≠ w.heap.size; omega) _).far (p := ⟨w.heap.size, 1, none⟩) (by have := S6.out.lt; show T ≠ w.heap.size; omega) _
  have q0 : World.cell? ((w6.setCell ⟨w.heap.size, 0, none⟩ (.string nn)).setCell ⟨w.heap.size, 1, none⟩ (.string y)) ⟨w.heap.size, 0, none⟩ = some (.string nn) := K6.out.cell 0
  have q1 : World.cell? ((w6.setCell ⟨w.heap.size, 0, none⟩ (.string nn)).setCell ⟨w.heap.size, 1, none⟩ (.string y)) ⟨w.heap.size, 1, none⟩ = some (.string y) := K6.out.cell 1
  clear f1 f2 t6 HFin
  cases A <;> cases N <;> cases I <;> cases ok
  all_goals
    go_wp2_with fail
    first
      | exact bodyPost_ret (v := .tuple #[.agg #[.string nn, .string y], .bool false]) (by simp [results, Tryz.results53, go_sem, q0, q1]) rfl ⟨HF.out _ _ rfl X6.out, N6.out⟩
      | exact bodyPost_ret (v := .tuple #[.agg #[.string nn, .string y], .bool true]) (by simp [results, Tryz.results53, go_sem, q0, q1]) rfl ⟨HF.out _ _ rfl X6.out, N6.out⟩
end Go.Proofs.YtlpjealcmnnbnaaGreatDoor
