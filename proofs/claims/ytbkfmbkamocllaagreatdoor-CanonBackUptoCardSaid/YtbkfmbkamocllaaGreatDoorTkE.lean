/-
  package token: a Close, a Text, an Open.
-/
import Derived.Test.YtbkfmbkamocllaaGreatDoorTkD
namespace Go.Proofs.YtbkfmbkamocllaaGreatDoor
open Go.RowKit Tk

/-- Six stores into the block D. -/
abbrev six (D : Nat) (W : World) (a0 a1 a2 a3 a4 a5 : Value) : World := (((((W.setCell ⟨D, 0, none⟩ a0).setCell ⟨D, 1, none⟩ a1).setCell ⟨D, 2, none⟩ a2).setCell ⟨D, 3, none⟩ a3).setCell ⟨D, 4, none⟩ a4).setCell ⟨D, 5, none⟩ a5
theorem Bk.six {W : World} {D : Nat} {t : TypeId} {d0 d1 d2 d3 d4 d5 : Value} (h : Bk W D t #[d0, d1, d2, d3, d4, d5]) (a0 a1 a2 a3 a4 a5 : Value) : Bk (six D W a0 a1 a2 a3 a4 a5) D t #[a0, a1, a2, a3, a4, a5] := by
  have := (((((h.put 0 a0).put 1 a1).put 2 a2).put 3 a3).put 4 a4).put 5 a5
  simpa using this
theorem six_tn {T D B : Nat} {w W : World} (h : Tn T B w W) (hB : B ≤ D) (a0 a1 a2 a3 a4 a5 : Value) : Tn T B w (six D W a0 a1 a2 a3 a4 a5) :=
  (((((h.setHigh (p := ⟨D, 0, none⟩) hB _).setHigh (p := ⟨D, 1, none⟩) hB _).setHigh (p := ⟨D, 2, none⟩) hB _).setHigh (p := ⟨D, 3, none⟩) hB _).setHigh (p := ⟨D, 4, none⟩) hB _).setHigh (p := ⟨D, 5, none⟩) hB _
theorem six_tx {ty : TypeId} {T D : Nat} {W : World} {s : ByteArray} {r : List UInt8} (h : TX ty W T s r) (hD : T ≠ D) (a0 a1 a2 a3 a4 a5 : Value) : TX ty (six D W a0 a1 a2 a3 a4 a5) T s r :=
  (((((h.far (p := ⟨D, 0, none⟩) hD _).far (p := ⟨D, 1, none⟩) hD _).far (p := ⟨D, 2, none⟩) hD _).far (p := ⟨D, 3, none⟩) hD _).far (p := ⟨D, 4, none⟩) hD _).far (p := ⟨D, 5, none⟩) hD _
theorem six_far {W : World} {D g : Nat} {t : TypeId} {cs : Array Value} (h : Bk W g t cs) (hD : g ≠ D) (a0 a1 a2 a3 a4 a5 : Value) : Bk (six D W a0 a1 a2 a3 a4 a5) g t cs :=
  (((((h.far (p := ⟨D, 0, none⟩) hD _).far (p := ⟨D, 1, none⟩) hD _).far (p := ⟨D, 2, none⟩) hD _).far (p := ⟨D, 3, none⟩) hD _).far (p := ⟨D, 4, none⟩) hD _).far (p := ⟨D, 5, none⟩) hD _
theorem six_keepA {W : World} {D : Nat} {t : TypeId} {cs : Array Value} (h : Bk W D t cs) (ht : t ≠ 45) (a0 a1 a2 a3 a4 a5 : Value) : KeepA W (six D W a0 a1 a2 a3 a4 a5) := fun _ _ hg => six_far hg (hg.type_ne h (fun e => ht e.symm)) _ _ _ _ _ _

/-- What is known of a token that a call has told. -/
def TokIs (w : World) (o : Option (Tok × List UInt8)) (k : Int) (x y : ByteArray) (u : Value) (b ok : Bool) (r : List UInt8) : Prop := match o with
  | some q => ok = true ∧ k = q.1.1 ∧ x = bts q.1.2.1 ∧ y = bts q.1.2.2.1 ∧ RowA w u q.1.2.2.2.1 ∧ b = q.1.2.2.2.2 ∧ r = q.2
  | none => ok = false
theorem TokIs.keep {w w' : World} {o : Option (Tok × List UInt8)} {k : Int} {x y : ByteArray} {u : Value} {b ok : Bool} {r : List UInt8} (h : TokIs w o k x y u b ok r) (hk : KeepA w w') : TokIs w' o k x y u b ok r := by
  cases o with
  | none => exact h
  | some q =>
    obtain ⟨h1, h2, h3, h4, h5, h6, h7⟩ := h
    exact ⟨h1, h2, h3, h4, h5.keep hk, h6, h7⟩
theorem TokIs.no {w : World} {o : Option (Tok × List UInt8)} {k : Int} {x y : ByteArray} {u : Value} {b : Bool} {r : List UInt8} (h : o = none) : TokIs w o k x y u b false r := by subst h; rfl
theorem TokIs.yes {w : World} {o : Option (Tok × List UInt8)} {t : Tok} {k : Int} {x y : ByteArray} {u : Value} {b : Bool} {r : List UInt8} (h : o = some (t, r)) (h1 : k = t.1) (h2 : x = bts t.2.1) (h3 : y = bts t.2.2.1) (h4 : RowA w u t.2.2.2.1) (h5 : b = t.2.2.2.2) : TokIs w o k x y u b true r := by
  subst h
  exact ⟨rfl, h1, h2, h3, h4, h5, rfl⟩
def TokOut (ty : TypeId) (T : Nat) (s : ByteArray) (p : Int) (o : Option (Tok × List UInt8)) (e : Ending) (w' : World) : Prop := ∃ (k : Int) (x y : ByteArray) (A : Option Addr) (n cap : Nat) (b ok : Bool) (r : List UInt8),
  e = .returned (.tuple #[.agg #[.int .i64 k, .int .i64 p, .string x, .string y, .slice A n cap, .bool b], .bool ok]) ∧ TX ty w' T s r ∧ TokIs w' o k x y (.slice A n cap) b ok r
theorem RowA.nil (w : World) : RowA w (.slice none 0 0) [] := ⟨none, 0, rfl, fun h => by simp at h, Nat.le_refl _, Nat.zero_le _, fun _ => rfl⟩
abbrev tok0 : Array Value := #[.int .i64 0, .int .i64 0, .string ⟨#[]⟩, .string ⟨#[]⟩, .slice none 0 0, .bool false]

theorem close_no {l : List UInt8} (h : (nameL l).1 = []) : closeL l = none := by unfold closeL; rw [if_pos h]
theorem close_not {l : List UInt8} (h : ∀ r, (nameL l).2.dropWhile bl ≠ 62 :: r) : closeL l = none := by
  unfold closeL
  split
  · rfl
  · split
    · rename_i e; exact absurd e (h _)
    · rfl
theorem close_yes {l r : List UInt8} (h0 : (nameL l).1 ≠ []) (h : (nameL l).2.dropWhile bl = 62 :: r) : closeL l = some ((2, (nameL l).1, [], [], false), r) := by
  unfold closeL
  rw [if_neg h0, h]
  rfl
set_option maxHeartbeats 4000000 in
set_option maxRecDepth 100000 in
theorem closed_any (T : Nat) (s : ByteArray) (r : List UInt8) (w : World) (h : TX 58 w T s r) (hs : s.size ≤ 100000000) (hE : Env T w) :
    Calls Tryz.prog 49 #[.pointer (some ⟨T, 0, none⟩)] w fun e w' => TokOut 58 T s 0 (closeL r) e w' ∧ Tn T w.heap.size w w' := by
  have HRU := Lib.hid (fun (l : List UInt8) (W : World) (a : TX 58 W T s l) => run_any T s _ bl l W a hs (asks_blank T W))
  have HNA := Lib.hid (fun (l : List UInt8) (W : World) (a : TX 58 W T s l) => name_any T s l W a hs)
  have HOV := Lib.hid (fun (l : List UInt8) (W : World) (a : TX 58 W T s l) => over_any T s ⟨#[62]⟩ l W a hs (by show 1 ≤ 1000; omega))
  have S0 := Lib.hid (Sk.start 63 tok0 hE h.lt)
  have T0 := Lib.hid (h.alloc (.cells tok0 63))
  obtain ⟨nn, hnn⟩ : ∃ nn, bts (nameL r).1 = nn := ⟨_, rfl⟩
  have hN := empty_bts (nameL r).1
  rw [hnn] at hN
  have HNN := Lib.hid hnn
  have hNb : (nameL r).1.isEmpty = true ∨ (nameL r).1.isEmpty = false := by cases (nameL r).1.isEmpty <;> simp
  obtain ⟨N, hN1⟩ : ∃ N, (nameL r).1.isEmpty = N := ⟨_, rfl⟩
  rw [hN1] at hN hNb
  have HN1 := Lib.hid hN1
  obtain ⟨Y, hY⟩ : ∃ Y, (nameL r).2.dropWhile bl = Y := ⟨_, rfl⟩
  have HY := Lib.hid hY
  clear h hE hnn hN1 hY
  go_enter Tryz.func49, Tryz.ntmps49
  go_wp2_with fail
  refine (HNA.out r _ T0.out).mono ?_
  rintro e w1 ⟨rfl, t1, n1⟩
  have T1 := Lib.hid t1
  have S1 := Lib.hid (S0.out.step n1)
  clear t1 n1
  rw [HNN.out]
  go_wp2_with fail
  refine (HRU.out _ w1 T1.out).mono ?_
  rintro e w2 ⟨rfl, t2, n2⟩
  rw [HY.out] at t2
  have T2 := Lib.hid t2
  have S2 := Lib.hid (S1.out.step n2)
  clear t2 n2
  obtain ⟨Q, hQ⟩ : ∃ Q, w.heap.size = Q := ⟨_, rfl⟩
  have HQ := Lib.hid hQ
  rcases hNb with rfl | rfl
  · have HC : Hid (closeL r = none) := close_no (List.isEmpty_iff.1 HN1.out)
    have SQ0 := S2.out
    rw [hQ] at SQ0
    have SQ := Lib.hid SQ0
    clear SQ0
    obtain ⟨v0, c0⟩ : ∃ v, w2.cell? ⟨Q, 0, none⟩ = some v := ⟨_, SQ.out.bk.cell 0⟩
    obtain ⟨v1, c1⟩ : ∃ v, w2.cell? ⟨Q, 1, none⟩ = some v := ⟨_, SQ.out.bk.cell 1⟩
    obtain ⟨v2, c2⟩ : ∃ v, w2.cell? ⟨Q, 2, none⟩ = some v := ⟨_, SQ.out.bk.cell 2⟩
    obtain ⟨v3, c3⟩ : ∃ v, w2.cell? ⟨Q, 3, none⟩ = some v := ⟨_, SQ.out.bk.cell 3⟩
    obtain ⟨v4, c4⟩ : ∃ v, w2.cell? ⟨Q, 4, none⟩ = some v := ⟨_, SQ.out.bk.cell 4⟩
    obtain ⟨v5, c5⟩ : ∃ v, w2.cell? ⟨Q, 5, none⟩ = some v := ⟨_, SQ.out.bk.cell 5⟩
    have f0 : w2.frozen? ⟨Q, 0, none⟩ = false := SQ.out.bk.free 0
    have f1 : w2.frozen? ⟨Q, 1, none⟩ = false := SQ.out.bk.free 1
    have f2 : w2.frozen? ⟨Q, 2, none⟩ = false := SQ.out.bk.free 2
    have f3 : w2.frozen? ⟨Q, 3, none⟩ = false := SQ.out.bk.free 3
    have f4 : w2.frozen? ⟨Q, 4, none⟩ = false := SQ.out.bk.free 4
    have f5 : w2.frozen? ⟨Q, 5, none⟩ = false := SQ.out.bk.free 5
    go_wp2_with fail
    have KF := SQ.out.bk.six (.int .i64 2) (.int .i64 0) (.string nn) (.string ⟨#[]⟩) (.slice none 0 0) (.bool false)
    have q0 : World.cell? (six Q w2 (.int .i64 2) (.int .i64 0) (.string nn) (.string ⟨#[]⟩) (.slice none 0 0) (.bool false)) ⟨Q, 0, none⟩ = some (.int .i64 2) := KF.cell 0
    have q1 : World.cell? (six Q w2 (.int .i64 2) (.int .i64 0) (.string nn) (.string ⟨#[]⟩) (.slice none 0 0) (.bool false)) ⟨Q, 1, none⟩ = some (.int .i64 0) := KF.cell 1
    have q2 : World.cell? (six Q w2 (.int .i64 2) (.int .i64 0) (.string nn) (.string ⟨#[]⟩) (.slice none 0 0) (.bool false)) ⟨Q, 2, none⟩ = some (.string nn) := KF.cell 2
    have q3 : World.cell? (six Q w2 (.int .i64 2) (.int .i64 0) (.string nn) (.string ⟨#[]⟩) (.slice none 0 0) (.bool false)) ⟨Q, 3, none⟩ = some (.string ⟨#[]⟩) := KF.cell 3
    have q4 : World.cell? (six Q w2 (.int .i64 2) (.int .i64 0) (.string nn) (.string ⟨#[]⟩) (.slice none 0 0) (.bool false)) ⟨Q, 4, none⟩ = some (.slice none 0 0) := KF.cell 4
    have q5 : World.cell? (six Q w2 (.int .i64 2) (.int .i64 0) (.string nn) (.string ⟨#[]⟩) (.slice none 0 0) (.bool false)) ⟨Q, 5, none⟩ = some (.bool false) := KF.cell 5
    refine bodyPost_ret (v := .tuple #[.agg #[.int .i64 2, .int .i64 0, .string nn, .string ⟨#[]⟩, .slice none 0 0, .bool false], .bool false]) (by simp [results, Tryz.results49, go_sem, q0, q1, q2, q3, q4, q5]) rfl ⟨⟨2, nn, ⟨#[]⟩, none, 0, 0, false, false, Y, rfl, six_tx T2.out (by have := SQ.out.lt; omega) _ _ _ _ _ _, ?_⟩, ?_⟩
    · exact TokIs.no HC.out
    · rw [HQ.out]; exact six_tn SQ.out.tn (Nat.le_refl _) _ _ _ _ _ _
  · rcases one_prefix 62 Y with ⟨hp, r3, hr3, ho⟩ | ⟨hp, ho, hne⟩
    · have HO := Lib.hid (HOV.out Y w2 T2.out)
      rw [hp, ho] at HO
      have HC : Hid (closeL r = some ((2, (nameL r).1, [], [], false), r3)) := close_yes (fun e => by have := HN1.out; rw [e] at this; cases this) (by rw [HY.out]; exact hr3)
      clear hp ho hr3
      go_wp2_with fail
      refine HO.out.mono ?_
      rintro e w3 ⟨rfl, t3, n3⟩
      have T3 := Lib.hid t3
      have S3 := Lib.hid (S2.out.step n3)
      clear t3 n3
      have SQ0 := S3.out
      rw [hQ] at SQ0
      have SQ := Lib.hid SQ0
      clear SQ0
      obtain ⟨v0, c0⟩ : ∃ v, w3.cell? ⟨Q, 0, none⟩ = some v := ⟨_, SQ.out.bk.cell 0⟩
      obtain ⟨v1, c1⟩ : ∃ v, w3.cell? ⟨Q, 1, none⟩ = some v := ⟨_, SQ.out.bk.cell 1⟩
      obtain ⟨v2, c2⟩ : ∃ v, w3.cell? ⟨Q, 2, none⟩ = some v := ⟨_, SQ.out.bk.cell 2⟩
      obtain ⟨v3, c3⟩ : ∃ v, w3.cell? ⟨Q, 3, none⟩ = some v := ⟨_, SQ.out.bk.cell 3⟩
      obtain ⟨v4, c4⟩ : ∃ v, w3.cell? ⟨Q, 4, none⟩ = some v := ⟨_, SQ.out.bk.cell 4⟩
      obtain ⟨v5, c5⟩ : ∃ v, w3.cell? ⟨Q, 5, none⟩ = some v := ⟨_, SQ.out.bk.cell 5⟩
      have f0 : w3.frozen? ⟨Q, 0, none⟩ = false := SQ.out.bk.free 0
      have f1 : w3.frozen? ⟨Q, 1, none⟩ = false := SQ.out.bk.free 1
      have f2 : w3.frozen? ⟨Q, 2, none⟩ = false := SQ.out.bk.free 2
      have f3 : w3.frozen? ⟨Q, 3, none⟩ = false := SQ.out.bk.free 3
      have f4 : w3.frozen? ⟨Q, 4, none⟩ = false := SQ.out.bk.free 4
      have f5 : w3.frozen? ⟨Q, 5, none⟩ = false := SQ.out.bk.free 5
      go_wp2_with fail
      have KF := SQ.out.bk.six (.int .i64 2) (.int .i64 0) (.string nn) (.string ⟨#[]⟩) (.slice none 0 0) (.bool false)
      have q0 : World.cell? (six Q w3 (.int .i64 2) (.int .i64 0) (.string nn) (.string ⟨#[]⟩) (.slice none 0 0) (.bool false)) ⟨Q, 0, none⟩ = some (.int .i64 2) := KF.cell 0
      have q1 : World.cell? (six Q w3 (.int .i64 2) (.int .i64 0) (.string nn) (.string ⟨#[]⟩) (.slice none 0 0) (.bool false)) ⟨Q, 1, none⟩ = some (.int .i64 0) := KF.cell 1
      have q2 : World.cell? (six Q w3 (.int .i64 2) (.int .i64 0) (.string nn) (.string ⟨#[]⟩) (.slice none 0 0) (.bool false)) ⟨Q, 2, none⟩ = some (.string nn) := KF.cell 2
      have q3 : World.cell? (six Q w3 (.int .i64 2) (.int .i64 0) (.string nn) (.string ⟨#[]⟩) (.slice none 0 0) (.bool false)) ⟨Q, 3, none⟩ = some (.string ⟨#[]⟩) := KF.cell 3
      have q4 : World.cell? (six Q w3 (.int .i64 2) (.int .i64 0) (.string nn) (.string ⟨#[]⟩) (.slice none 0 0) (.bool false)) ⟨Q, 4, none⟩ = some (.slice none 0 0) := KF.cell 4
      have q5 : World.cell? (six Q w3 (.int .i64 2) (.int .i64 0) (.string nn) (.string ⟨#[]⟩) (.slice none 0 0) (.bool false)) ⟨Q, 5, none⟩ = some (.bool false) := KF.cell 5
      refine bodyPost_ret (v := .tuple #[.agg #[.int .i64 2, .int .i64 0, .string nn, .string ⟨#[]⟩, .slice none 0 0, .bool false], .bool true]) (by simp [results, Tryz.results49, go_sem, q0, q1, q2, q3, q4, q5]) rfl ⟨⟨2, nn, ⟨#[]⟩, none, 0, 0, false, true, r3, rfl, six_tx T3.out (by have := SQ.out.lt; omega) _ _ _ _ _ _, ?_⟩, ?_⟩
      · exact TokIs.yes HC.out rfl HNN.out.symm rfl (RowA.nil _) rfl
      · rw [HQ.out]; exact six_tn SQ.out.tn (Nat.le_refl _) _ _ _ _ _ _
    · have HO := Lib.hid (HOV.out Y w2 T2.out)
      rw [hp, ho] at HO
      have HC : Hid (closeL r = none) := close_not (fun x => by rw [HY.out]; exact hne x)
      clear hp ho hne
      go_wp2_with fail
      refine HO.out.mono ?_
      rintro e w3 ⟨rfl, t3, n3⟩
      have T3 := Lib.hid t3
      have S3 := Lib.hid (S2.out.step n3)
      clear t3 n3
      have SQ0 := S3.out
      rw [hQ] at SQ0
      have SQ := Lib.hid SQ0
      clear SQ0
      obtain ⟨v0, c0⟩ : ∃ v, w3.cell? ⟨Q, 0, none⟩ = some v := ⟨_, SQ.out.bk.cell 0⟩
      obtain ⟨v1, c1⟩ : ∃ v, w3.cell? ⟨Q, 1, none⟩ = some v := ⟨_, SQ.out.bk.cell 1⟩
      obtain ⟨v2, c2⟩ : ∃ v, w3.cell? ⟨Q, 2, none⟩ = some v := ⟨_, SQ.out.bk.cell 2⟩
      obtain ⟨v3, c3⟩ : ∃ v, w3.cell? ⟨Q, 3, none⟩ = some v := ⟨_, SQ.out.bk.cell 3⟩
      obtain ⟨v4, c4⟩ : ∃ v, w3.cell? ⟨Q, 4, none⟩ = some v := ⟨_, SQ.out.bk.cell 4⟩
      obtain ⟨v5, c5⟩ : ∃ v, w3.cell? ⟨Q, 5, none⟩ = some v := ⟨_, SQ.out.bk.cell 5⟩
      have f0 : w3.frozen? ⟨Q, 0, none⟩ = false := SQ.out.bk.free 0
      have f1 : w3.frozen? ⟨Q, 1, none⟩ = false := SQ.out.bk.free 1
      have f2 : w3.frozen? ⟨Q, 2, none⟩ = false := SQ.out.bk.free 2
      have f3 : w3.frozen? ⟨Q, 3, none⟩ = false := SQ.out.bk.free 3
      have f4 : w3.frozen? ⟨Q, 4, none⟩ = false := SQ.out.bk.free 4
      have f5 : w3.frozen? ⟨Q, 5, none⟩ = false := SQ.out.bk.free 5
      go_wp2_with fail
      have KF := SQ.out.bk.six (.int .i64 2) (.int .i64 0) (.string nn) (.string ⟨#[]⟩) (.slice none 0 0) (.bool false)
      have q0 : World.cell? (six Q w3 (.int .i64 2) (.int .i64 0) (.string nn) (.string ⟨#[]⟩) (.slice none 0 0) (.bool false)) ⟨Q, 0, none⟩ = some (.int .i64 2) := KF.cell 0
      have q1 : World.cell? (six Q w3 (.int .i64 2) (.int .i64 0) (.string nn) (.string ⟨#[]⟩) (.slice none 0 0) (.bool false)) ⟨Q, 1, none⟩ = some (.int .i64 0) := KF.cell 1
      have q2 : World.cell? (six Q w3 (.int .i64 2) (.int .i64 0) (.string nn) (.string ⟨#[]⟩) (.slice none 0 0) (.bool false)) ⟨Q, 2, none⟩ = some (.string nn) := KF.cell 2
      have q3 : World.cell? (six Q w3 (.int .i64 2) (.int .i64 0) (.string nn) (.string ⟨#[]⟩) (.slice none 0 0) (.bool false)) ⟨Q, 3, none⟩ = some (.string ⟨#[]⟩) := KF.cell 3
      have q4 : World.cell? (six Q w3 (.int .i64 2) (.int .i64 0) (.string nn) (.string ⟨#[]⟩) (.slice none 0 0) (.bool false)) ⟨Q, 4, none⟩ = some (.slice none 0 0) := KF.cell 4
      have q5 : World.cell? (six Q w3 (.int .i64 2) (.int .i64 0) (.string nn) (.string ⟨#[]⟩) (.slice none 0 0) (.bool false)) ⟨Q, 5, none⟩ = some (.bool false) := KF.cell 5
      refine bodyPost_ret (v := .tuple #[.agg #[.int .i64 2, .int .i64 0, .string nn, .string ⟨#[]⟩, .slice none 0 0, .bool false], .bool false]) (by simp [results, Tryz.results49, go_sem, q0, q1, q2, q3, q4, q5]) rfl ⟨⟨2, nn, ⟨#[]⟩, none, 0, 0, false, false, Y, rfl, six_tx T3.out (by have := SQ.out.lt; omega) _ _ _ _ _ _, ?_⟩, ?_⟩
      · exact TokIs.no HC.out
      · rw [HQ.out]; exact six_tn SQ.out.tn (Nat.le_refl _) _ _ _ _ _ _
theorem text_no {l : List UInt8} (h : l.takeWhile (fun c => c != 60) = []) : textL l = none := by unfold textL; rw [if_pos h]
theorem text_bad {l : List UInt8} (h : backO (l.takeWhile (fun c => c != 60)) = none) : textL l = none := by
  unfold textL
  split
  · rfl
  · rw [h]; rfl
theorem text_yes {l x : List UInt8} (h0 : l.takeWhile (fun c => c != 60) ≠ []) (h : backO (l.takeWhile (fun c => c != 60)) = some x) : textL l = some ((3, [], x, [], false), l.dropWhile (fun c => c != 60)) := by
  unfold textL
  rw [if_neg h0, h]
  rfl
set_option maxHeartbeats 4000000 in
set_option maxRecDepth 100000 in
theorem words_any (T : Nat) (s : ByteArray) (r : List UInt8) (w : World) (h : TX 58 w T s r) (hs : s.size ≤ 100000000) (hE : Env T w) :
    Calls Tryz.prog 51 #[.pointer (some ⟨T, 0, none⟩)] w fun e w' => TokOut 58 T s 0 (textL r) e w' ∧ Tn T w.heap.size w w' := by
  have S0 := Lib.hid (Sk.start 63 tok0 hE h.lt)
  have T0 := Lib.hid (h.alloc (.cells tok0 63))
  have HRU := Lib.hid (run_any T s _ (fun c => c != 60) r _ T0.out hs (asks_words T _))
  obtain ⟨X, hX⟩ : ∃ X, r.takeWhile (fun c => c != 60) = X := ⟨_, rfl⟩
  have hXl : X.length ≤ s.size := by have := while_len (fun c => c != 60) r; rw [hX] at this; have := h.len; omega
  obtain ⟨nn, hnn⟩ : ∃ nn, bts X = nn := ⟨_, rfl⟩
  have hnl : nn.data.toList = X := by rw [← hnn]
  have hN := empty_bts X
  rw [hnn] at hN
  obtain ⟨N, hN1⟩ : ∃ N, X.isEmpty = N := ⟨_, rfl⟩
  rw [hN1] at hN
  have HX := Lib.hid hX
  have HN1 := Lib.hid hN1
  rw [hX, hnn] at HRU
  have HBA := Lib.hid (fun (W : World) (a : Env T W) => back_any nn W a.tabs.1 a.tabs.2 (by rw [Lib.size_eq, hnl]; omega))
  rw [hnl] at HBA
  clear h hE hnn hN1 hX hnl
  go_enter Tryz.func51, Tryz.ntmps51
  go_wp2_with fail
  refine HRU.out.mono ?_
  rintro e w1 ⟨rfl, t1, n1⟩
  have T1 := Lib.hid t1
  have S1 := Lib.hid (S0.out.step n1)
  clear t1 n1
  go_wp2_with fail
  refine (HBA.out w1 S1.out.env).mono ?_
  rintro e w2 ⟨rfl, b2⟩
  have T2 := Lib.hid (T1.out.below b2 T1.out.lt)
  have S2 := Lib.hid (S1.out.belo b2)
  clear b2
  obtain ⟨Q, hQ⟩ : ∃ Q, w.heap.size = Q := ⟨_, rfl⟩
  have HQ := Lib.hid hQ
  have SQ0 := S2.out
  rw [hQ] at SQ0
  have SQ := Lib.hid SQ0
  clear SQ0
  obtain ⟨v0, c0⟩ : ∃ v, w2.cell? ⟨Q, 0, none⟩ = some v := ⟨_, SQ.out.bk.cell 0⟩
  obtain ⟨v1, c1⟩ : ∃ v, w2.cell? ⟨Q, 1, none⟩ = some v := ⟨_, SQ.out.bk.cell 1⟩
  obtain ⟨v2, c2⟩ : ∃ v, w2.cell? ⟨Q, 2, none⟩ = some v := ⟨_, SQ.out.bk.cell 2⟩
  obtain ⟨v3, c3⟩ : ∃ v, w2.cell? ⟨Q, 3, none⟩ = some v := ⟨_, SQ.out.bk.cell 3⟩
  obtain ⟨v4, c4⟩ : ∃ v, w2.cell? ⟨Q, 4, none⟩ = some v := ⟨_, SQ.out.bk.cell 4⟩
  obtain ⟨v5, c5⟩ : ∃ v, w2.cell? ⟨Q, 5, none⟩ = some v := ⟨_, SQ.out.bk.cell 5⟩
  have f0 : w2.frozen? ⟨Q, 0, none⟩ = false := SQ.out.bk.free 0
  have f1 : w2.frozen? ⟨Q, 1, none⟩ = false := SQ.out.bk.free 1
  have f2 : w2.frozen? ⟨Q, 2, none⟩ = false := SQ.out.bk.free 2
  have f3 : w2.frozen? ⟨Q, 3, none⟩ = false := SQ.out.bk.free 3
  have f4 : w2.frozen? ⟨Q, 4, none⟩ = false := SQ.out.bk.free 4
  have f5 : w2.frozen? ⟨Q, 5, none⟩ = false := SQ.out.bk.free 5
  rcases backV_cases X with ⟨x, hx1, hx2⟩ | ⟨m, hm, hx1, hx2⟩
  · have HX2 := Lib.hid hx2
    have HX1 := Lib.hid hx1
    obtain ⟨y, hy⟩ : ∃ y, bts x = y := ⟨_, rfl⟩
    rw [hy] at HX2
    have HY := Lib.hid hy
    clear hx1 hx2 hy
    rw [HX2.out]
    cases N
    · have HC : Hid (textL r = some ((3, [], x, [], false), r.dropWhile (fun c => c != 60))) := text_yes (by rw [HX.out]; intro e; have := HN1.out; rw [e] at this; cases this) (by rw [HX.out]; exact HX1.out)
      go_wp2_with fail
      have KF := SQ.out.bk.six (.int .i64 3) (.int .i64 0) (.string ⟨#[]⟩) (.string y) (.slice none 0 0) (.bool false)
      have q0 : World.cell? (six Q w2 (.int .i64 3) (.int .i64 0) (.string ⟨#[]⟩) (.string y) (.slice none 0 0) (.bool false)) ⟨Q, 0, none⟩ = some (.int .i64 3) := KF.cell 0
      have q1 : World.cell? (six Q w2 (.int .i64 3) (.int .i64 0) (.string ⟨#[]⟩) (.string y) (.slice none 0 0) (.bool false)) ⟨Q, 1, none⟩ = some (.int .i64 0) := KF.cell 1
      have q2 : World.cell? (six Q w2 (.int .i64 3) (.int .i64 0) (.string ⟨#[]⟩) (.string y) (.slice none 0 0) (.bool false)) ⟨Q, 2, none⟩ = some (.string ⟨#[]⟩) := KF.cell 2
      have q3 : World.cell? (six Q w2 (.int .i64 3) (.int .i64 0) (.string ⟨#[]⟩) (.string y) (.slice none 0 0) (.bool false)) ⟨Q, 3, none⟩ = some (.string y) := KF.cell 3
      have q4 : World.cell? (six Q w2 (.int .i64 3) (.int .i64 0) (.string ⟨#[]⟩) (.string y) (.slice none 0 0) (.bool false)) ⟨Q, 4, none⟩ = some (.slice none 0 0) := KF.cell 4
      have q5 : World.cell? (six Q w2 (.int .i64 3) (.int .i64 0) (.string ⟨#[]⟩) (.string y) (.slice none 0 0) (.bool false)) ⟨Q, 5, none⟩ = some (.bool false) := KF.cell 5
      refine bodyPost_ret (v := .tuple #[.agg #[.int .i64 3, .int .i64 0, .string ⟨#[]⟩, .string y, .slice none 0 0, .bool false], .bool true]) (by simp [results, Tryz.results51, go_sem, q0, q1, q2, q3, q4, q5]) rfl ⟨⟨3, ⟨#[]⟩, y, none, 0, 0, false, true, r.dropWhile (fun c => c != 60), rfl, six_tx T2.out (by have := SQ.out.lt; omega) _ _ _ _ _ _, ?_⟩, ?_⟩
      · exact TokIs.yes HC.out rfl rfl HY.out.symm (RowA.nil _) rfl
      · rw [HQ.out]; exact six_tn SQ.out.tn (Nat.le_refl _) _ _ _ _ _ _
    · have HC : Hid (textL r = none) := text_no (by rw [HX.out]; exact List.isEmpty_iff.1 HN1.out)
      go_wp2_with fail
      have KF := SQ.out.bk.six (.int .i64 3) (.int .i64 0) (.string ⟨#[]⟩) (.string y) (.slice none 0 0) (.bool false)
      have q0 : World.cell? (six Q w2 (.int .i64 3) (.int .i64 0) (.string ⟨#[]⟩) (.string y) (.slice none 0 0) (.bool false)) ⟨Q, 0, none⟩ = some (.int .i64 3) := KF.cell 0
      have q1 : World.cell? (six Q w2 (.int .i64 3) (.int .i64 0) (.string ⟨#[]⟩) (.string y) (.slice none 0 0) (.bool false)) ⟨Q, 1, none⟩ = some (.int .i64 0) := KF.cell 1
      have q2 : World.cell? (six Q w2 (.int .i64 3) (.int .i64 0) (.string ⟨#[]⟩) (.string y) (.slice none 0 0) (.bool false)) ⟨Q, 2, none⟩ = some (.string ⟨#[]⟩) := KF.cell 2
      have q3 : World.cell? (six Q w2 (.int .i64 3) (.int .i64 0) (.string ⟨#[]⟩) (.string y) (.slice none 0 0) (.bool false)) ⟨Q, 3, none⟩ = some (.string y) := KF.cell 3
      have q4 : World.cell? (six Q w2 (.int .i64 3) (.int .i64 0) (.string ⟨#[]⟩) (.string y) (.slice none 0 0) (.bool false)) ⟨Q, 4, none⟩ = some (.slice none 0 0) := KF.cell 4
      have q5 : World.cell? (six Q w2 (.int .i64 3) (.int .i64 0) (.string ⟨#[]⟩) (.string y) (.slice none 0 0) (.bool false)) ⟨Q, 5, none⟩ = some (.bool false) := KF.cell 5
      refine bodyPost_ret (v := .tuple #[.agg #[.int .i64 3, .int .i64 0, .string ⟨#[]⟩, .string y, .slice none 0 0, .bool false], .bool false]) (by simp [results, Tryz.results51, go_sem, q0, q1, q2, q3, q4, q5]) rfl ⟨⟨3, ⟨#[]⟩, y, none, 0, 0, false, false, r.dropWhile (fun c => c != 60), rfl, six_tx T2.out (by have := SQ.out.lt; omega) _ _ _ _ _ _, ?_⟩, ?_⟩
      · exact TokIs.no HC.out
      · rw [HQ.out]; exact six_tn SQ.out.tn (Nat.le_refl _) _ _ _ _ _ _
  · have HX2 := Lib.hid hx2
    have HC : Hid (textL r = none) := text_bad (by rw [HX.out]; exact hx1)
    have hm2 : (m == 0) = false := by simpa using hm
    clear hx1 hx2 hm
    rw [HX2.out]
    cases N
    · go_wp2_with fail
      have KF := SQ.out.bk.six (.int .i64 3) (.int .i64 0) (.string ⟨#[]⟩) (.string ⟨#[]⟩) (.slice none 0 0) (.bool false)
      have q0 : World.cell? (six Q w2 (.int .i64 3) (.int .i64 0) (.string ⟨#[]⟩) (.string ⟨#[]⟩) (.slice none 0 0) (.bool false)) ⟨Q, 0, none⟩ = some (.int .i64 3) := KF.cell 0
      have q1 : World.cell? (six Q w2 (.int .i64 3) (.int .i64 0) (.string ⟨#[]⟩) (.string ⟨#[]⟩) (.slice none 0 0) (.bool false)) ⟨Q, 1, none⟩ = some (.int .i64 0) := KF.cell 1
      have q2 : World.cell? (six Q w2 (.int .i64 3) (.int .i64 0) (.string ⟨#[]⟩) (.string ⟨#[]⟩) (.slice none 0 0) (.bool false)) ⟨Q, 2, none⟩ = some (.string ⟨#[]⟩) := KF.cell 2
      have q3 : World.cell? (six Q w2 (.int .i64 3) (.int .i64 0) (.string ⟨#[]⟩) (.string ⟨#[]⟩) (.slice none 0 0) (.bool false)) ⟨Q, 3, none⟩ = some (.string ⟨#[]⟩) := KF.cell 3
      have q4 : World.cell? (six Q w2 (.int .i64 3) (.int .i64 0) (.string ⟨#[]⟩) (.string ⟨#[]⟩) (.slice none 0 0) (.bool false)) ⟨Q, 4, none⟩ = some (.slice none 0 0) := KF.cell 4
      have q5 : World.cell? (six Q w2 (.int .i64 3) (.int .i64 0) (.string ⟨#[]⟩) (.string ⟨#[]⟩) (.slice none 0 0) (.bool false)) ⟨Q, 5, none⟩ = some (.bool false) := KF.cell 5
      refine bodyPost_ret (v := .tuple #[.agg #[.int .i64 3, .int .i64 0, .string ⟨#[]⟩, .string ⟨#[]⟩, .slice none 0 0, .bool false], .bool false]) (by simp [results, Tryz.results51, go_sem, q0, q1, q2, q3, q4, q5]) rfl ⟨⟨3, ⟨#[]⟩, ⟨#[]⟩, none, 0, 0, false, false, r.dropWhile (fun c => c != 60), rfl, six_tx T2.out (by have := SQ.out.lt; omega) _ _ _ _ _ _, ?_⟩, ?_⟩
      · exact TokIs.no HC.out
      · rw [HQ.out]; exact six_tn SQ.out.tn (Nat.le_refl _) _ _ _ _ _ _
    · go_wp2_with fail
      have KF := SQ.out.bk.six (.int .i64 3) (.int .i64 0) (.string ⟨#[]⟩) (.string ⟨#[]⟩) (.slice none 0 0) (.bool false)
      have q0 : World.cell? (six Q w2 (.int .i64 3) (.int .i64 0) (.string ⟨#[]⟩) (.string ⟨#[]⟩) (.slice none 0 0) (.bool false)) ⟨Q, 0, none⟩ = some (.int .i64 3) := KF.cell 0
      have q1 : World.cell? (six Q w2 (.int .i64 3) (.int .i64 0) (.string ⟨#[]⟩) (.string ⟨#[]⟩) (.slice none 0 0) (.bool false)) ⟨Q, 1, none⟩ = some (.int .i64 0) := KF.cell 1
      have q2 : World.cell? (six Q w2 (.int .i64 3) (.int .i64 0) (.string ⟨#[]⟩) (.string ⟨#[]⟩) (.slice none 0 0) (.bool false)) ⟨Q, 2, none⟩ = some (.string ⟨#[]⟩) := KF.cell 2
      have q3 : World.cell? (six Q w2 (.int .i64 3) (.int .i64 0) (.string ⟨#[]⟩) (.string ⟨#[]⟩) (.slice none 0 0) (.bool false)) ⟨Q, 3, none⟩ = some (.string ⟨#[]⟩) := KF.cell 3
      have q4 : World.cell? (six Q w2 (.int .i64 3) (.int .i64 0) (.string ⟨#[]⟩) (.string ⟨#[]⟩) (.slice none 0 0) (.bool false)) ⟨Q, 4, none⟩ = some (.slice none 0 0) := KF.cell 4
      have q5 : World.cell? (six Q w2 (.int .i64 3) (.int .i64 0) (.string ⟨#[]⟩) (.string ⟨#[]⟩) (.slice none 0 0) (.bool false)) ⟨Q, 5, none⟩ = some (.bool false) := KF.cell 5
      refine bodyPost_ret (v := .tuple #[.agg #[.int .i64 3, .int .i64 0, .string ⟨#[]⟩, .string ⟨#[]⟩, .slice none 0 0, .bool false], .bool false]) (by simp [results, Tryz.results51, go_sem, q0, q1, q2, q3, q4, q5]) rfl ⟨⟨3, ⟨#[]⟩, ⟨#[]⟩, none, 0, 0, false, false, r.dropWhile (fun c => c != 60), rfl, six_tx T2.out (by have := SQ.out.lt; omega) _ _ _ _ _ _, ?_⟩, ?_⟩
      · exact TokIs.no HC.out
      · rw [HQ.out]; exact six_tn SQ.out.tn (Nat.le_refl _) _ _ _ _ _ _
theorem open_no {l : List UInt8} (h : (nameL l).1 = []) : openL l = none := by unfold openL; rw [if_pos h]
theorem open_ends {l : List UInt8} (h : (nameL l).1 ≠ []) : openL l = ends (nameL l).1 (many nextA [] (nameL l).2) := by unfold openL; rw [if_neg h]
theorem ends_one {n : List UInt8} {p : List Att × List UInt8} {Y : List UInt8} (h : p.2.dropWhile bl = 47 :: Y) : (∀ r, Y = 62 :: r → ends n p = some ((1, n, [], p.1, true), r)) ∧ ((∀ r, Y ≠ 62 :: r) → ends n p = none) := by
  unfold ends
  rw [h]
  refine ⟨fun r e => by rw [e]; rfl, fun hn => ?_⟩
  split
  · rename_i r e
    injection e with _ e
    exact absurd e (hn r)
  · rename_i e
    injection e with e _
    exact absurd e (by decide)
  · rfl
theorem ends_two {n : List UInt8} {p : List Att × List UInt8} {Y : List UInt8} (h : p.2.dropWhile bl = Y) (h47 : ∀ t, Y ≠ 47 :: t) : (∀ r, Y = 62 :: r → ends n p = some ((1, n, [], p.1, false), r)) ∧ ((∀ r, Y ≠ 62 :: r) → ends n p = none) := by
  unfold ends
  rw [h]
  refine ⟨fun r e => by rw [e]; rfl, fun hn => ?_⟩
  split
  · exact absurd rfl (h47 _)
  · exact absurd rfl (hn _)
  · rfl
set_option maxHeartbeats 4000000 in
set_option maxRecDepth 100000 in
theorem opened_any (T : Nat) (s : ByteArray) (r : List UInt8) (w : World) (h : TX 58 w T s r) (hs : s.size ≤ 100000000) (hE : Env T w) :
    Calls Tryz.prog 50 #[.pointer (some ⟨T, 0, none⟩)] w fun e w' => TokOut 58 T s 0 (openL r) e w' ∧ Tn T w.heap.size w w' := by
  have HRU := Lib.hid (fun (l : List UInt8) (W : World) (a : TX 58 W T s l) => run_any T s _ bl l W a hs (asks_blank T W))
  have HNA := Lib.hid (fun (l : List UInt8) (W : World) (a : TX 58 W T s l) => name_any T s l W a hs)
  have HAT := Lib.hid (fun (l : List UInt8) (W : World) (a : TX 58 W T s l) (b : Env T W) => attrs_any T s l W a hs b)
  have HOV := Lib.hid (fun (m : ByteArray) (l : List UInt8) (W : World) (a : TX 58 W T s l) (b : m.size ≤ 1000) => over_any T s m l W a hs b)
  have S0 := Lib.hid (Sk.start 63 tok0 hE h.lt)
  have T0 := Lib.hid (h.alloc (.cells tok0 63))
  obtain ⟨nn, hnn⟩ : ∃ nn, bts (nameL r).1 = nn := ⟨_, rfl⟩
  have hN := empty_bts (nameL r).1
  rw [hnn] at hN
  have HNN := Lib.hid hnn
  obtain ⟨N, hN1⟩ : ∃ N, (nameL r).1.isEmpty = N := ⟨_, rfl⟩
  rw [hN1] at hN
  have HN1 := Lib.hid hN1
  obtain ⟨M, hM⟩ : ∃ M, many nextA [] (nameL r).2 = M := ⟨_, rfl⟩
  have HM := Lib.hid hM
  obtain ⟨Y, hY⟩ : ∃ Y, M.2.dropWhile bl = Y := ⟨_, rfl⟩
  have HY := Lib.hid hY
  clear h hE hnn hN1 hY hM
  go_enter Tryz.func50, Tryz.ntmps50
  go_wp2_with fail
  refine (HNA.out r _ T0.out).mono ?_
  rintro e w1 ⟨rfl, t1, n1⟩
  have T1 := Lib.hid t1
  have S1 := Lib.hid (S0.out.step n1)
  clear t1 n1
  rw [HNN.out]
  go_wp2_with fail
  refine (HAT.out _ w1 T1.out S1.out.env).mono ?_
  rintro e w2 ⟨⟨u, rfl, u2⟩, t2, n2⟩
  rw [HM.out] at u2 t2
  obtain ⟨A, cap, rfl, hAc⟩ := u2
  have U2 : Hid (RowA w2 (.slice A M.1.length cap) M.1) := ⟨A, cap, rfl, hAc⟩
  have T2 := Lib.hid t2
  have S2 := Lib.hid (S1.out.step n2)
  clear t2 n2 hAc
  obtain ⟨nA, hnA⟩ : ∃ nA, M.1.length = nA := ⟨_, rfl⟩
  rw [hnA] at U2
  rw [hnA]
  clear hnA
  go_wp2_with fail
  refine (HRU.out _ w2 T2.out).mono ?_
  rintro e w3 ⟨rfl, t3, n3⟩
  rw [HY.out] at t3
  have U3 := Lib.hid (U2.out.keep (by obtain ⟨cs, hc⟩ := T2.out.lo; exact KeepA.tn n3 hc (by decide)))
  have T3 := Lib.hid t3
  have S3 := Lib.hid (S2.out.step n3)
  clear t3 n3
  go_wp2_with fail
  obtain ⟨Q, hQ⟩ : ∃ Q, w.heap.size = Q := ⟨_, rfl⟩
  have HQ := Lib.hid hQ
  rcases one_prefix 47 Y with ⟨hp, Z, hz, ho⟩ | ⟨hp, ho, hne⟩
  · have HO := Lib.hid (HOV.out ⟨#[47]⟩ Y w3 T3.out (by show 1 ≤ 1000; omega))
    rw [show (⟨#[47]⟩ : ByteArray).data.toList = [47] from rfl, hp, ho] at HO
    have HE := Lib.hid (ends_one (n := (nameL r).1) (p := M) (Y := Z) (by rw [HY.out]; exact hz))
    clear hp ho hz
    refine HO.out.mono ?_
    rintro e w4 ⟨rfl, t4, n4⟩
    have U4 := Lib.hid (U3.out.keep (by obtain ⟨cs, hc⟩ := T3.out.lo; exact KeepA.tn n4 hc (by decide)))
    have T4 := Lib.hid t4
    have S4 := Lib.hid (S3.out.step n4)
    clear t4 n4
    cases N
    · have HNE : Hid ((nameL r).1 ≠ []) := fun e => by have := HN1.out; rw [e] at this; cases this
      rcases one_prefix 62 Z with ⟨hp, r5, hr5, ho⟩ | ⟨hp, ho, hne⟩
      · have HO5 := Lib.hid (HOV.out ⟨#[62]⟩ Z w4 T4.out (by show 1 ≤ 1000; omega))
        rw [show (⟨#[62]⟩ : ByteArray).data.toList = [62] from rfl, hp, ho] at HO5
        have HC : Hid (openL r = some ((1, (nameL r).1, [], M.1, true), r5)) := by unfold Hid; rw [open_ends HNE.out, HM.out]; exact HE.out.1 r5 hr5
        clear hp ho hr5
        go_wp2_with fail
        refine HO5.out.mono ?_
        rintro e w5 ⟨rfl, t5, n5⟩
        have U5 := Lib.hid (U4.out.keep (by obtain ⟨cs, hc⟩ := T4.out.lo; exact KeepA.tn n5 hc (by decide)))
        have T5 := Lib.hid t5
        have S5 := Lib.hid (S4.out.step n5)
        clear t5 n5
        have SQ0 := S5.out
        rw [hQ] at SQ0
        have SQ := Lib.hid SQ0
        clear SQ0
        obtain ⟨v0, c0⟩ : ∃ v, w5.cell? ⟨Q, 0, none⟩ = some v := ⟨_, SQ.out.bk.cell 0⟩
        obtain ⟨v1, c1⟩ : ∃ v, w5.cell? ⟨Q, 1, none⟩ = some v := ⟨_, SQ.out.bk.cell 1⟩
        obtain ⟨v2, c2⟩ : ∃ v, w5.cell? ⟨Q, 2, none⟩ = some v := ⟨_, SQ.out.bk.cell 2⟩
        obtain ⟨v3, c3⟩ : ∃ v, w5.cell? ⟨Q, 3, none⟩ = some v := ⟨_, SQ.out.bk.cell 3⟩
        obtain ⟨v4, c4⟩ : ∃ v, w5.cell? ⟨Q, 4, none⟩ = some v := ⟨_, SQ.out.bk.cell 4⟩
        obtain ⟨v5, c5⟩ : ∃ v, w5.cell? ⟨Q, 5, none⟩ = some v := ⟨_, SQ.out.bk.cell 5⟩
        have f0 : w5.frozen? ⟨Q, 0, none⟩ = false := SQ.out.bk.free 0
        have f1 : w5.frozen? ⟨Q, 1, none⟩ = false := SQ.out.bk.free 1
        have f2 : w5.frozen? ⟨Q, 2, none⟩ = false := SQ.out.bk.free 2
        have f3 : w5.frozen? ⟨Q, 3, none⟩ = false := SQ.out.bk.free 3
        have f4 : w5.frozen? ⟨Q, 4, none⟩ = false := SQ.out.bk.free 4
        have f5 : w5.frozen? ⟨Q, 5, none⟩ = false := SQ.out.bk.free 5
        go_wp2_with fail
        have KF := SQ.out.bk.six (.int .i64 1) (.int .i64 0) (.string nn) (.string ⟨#[]⟩) (.slice A nA cap) (.bool true)
        have q0 : World.cell? (six Q w5 (.int .i64 1) (.int .i64 0) (.string nn) (.string ⟨#[]⟩) (.slice A nA cap) (.bool true)) ⟨Q, 0, none⟩ = some (.int .i64 1) := KF.cell 0
        have q1 : World.cell? (six Q w5 (.int .i64 1) (.int .i64 0) (.string nn) (.string ⟨#[]⟩) (.slice A nA cap) (.bool true)) ⟨Q, 1, none⟩ = some (.int .i64 0) := KF.cell 1
        have q2 : World.cell? (six Q w5 (.int .i64 1) (.int .i64 0) (.string nn) (.string ⟨#[]⟩) (.slice A nA cap) (.bool true)) ⟨Q, 2, none⟩ = some (.string nn) := KF.cell 2
        have q3 : World.cell? (six Q w5 (.int .i64 1) (.int .i64 0) (.string nn) (.string ⟨#[]⟩) (.slice A nA cap) (.bool true)) ⟨Q, 3, none⟩ = some (.string ⟨#[]⟩) := KF.cell 3
        have q4 : World.cell? (six Q w5 (.int .i64 1) (.int .i64 0) (.string nn) (.string ⟨#[]⟩) (.slice A nA cap) (.bool true)) ⟨Q, 4, none⟩ = some (.slice A nA cap) := KF.cell 4
        have q5 : World.cell? (six Q w5 (.int .i64 1) (.int .i64 0) (.string nn) (.string ⟨#[]⟩) (.slice A nA cap) (.bool true)) ⟨Q, 5, none⟩ = some (.bool true) := KF.cell 5
        refine bodyPost_ret (v := .tuple #[.agg #[.int .i64 1, .int .i64 0, .string nn, .string ⟨#[]⟩, .slice A nA cap, .bool true], .bool true]) (by simp [results, Tryz.results50, go_sem, q0, q1, q2, q3, q4, q5]) rfl ⟨⟨1, nn, ⟨#[]⟩, A, nA, cap, true, true, r5, rfl, six_tx T5.out (by have := SQ.out.lt; omega) _ _ _ _ _ _, ?_⟩, ?_⟩
        · exact TokIs.yes HC.out rfl HNN.out.symm rfl (U5.out.keep (six_keepA SQ.out.bk (by decide) _ _ _ _ _ _)) rfl
        · rw [HQ.out]; exact six_tn SQ.out.tn (Nat.le_refl _) _ _ _ _ _ _
      · have HO5 := Lib.hid (HOV.out ⟨#[62]⟩ Z w4 T4.out (by show 1 ≤ 1000; omega))
        rw [show (⟨#[62]⟩ : ByteArray).data.toList = [62] from rfl, hp, ho] at HO5
        have HC : Hid (openL r = none) := by unfold Hid; rw [open_ends HNE.out, HM.out]; exact HE.out.2 hne
        clear hp ho hne
        go_wp2_with fail
        refine HO5.out.mono ?_
        rintro e w5 ⟨rfl, t5, n5⟩
        have T5 := Lib.hid t5
        have S5 := Lib.hid (S4.out.step n5)
        clear t5 n5
        have SQ0 := S5.out
        rw [hQ] at SQ0
        have SQ := Lib.hid SQ0
        clear SQ0
        obtain ⟨v0, c0⟩ : ∃ v, w5.cell? ⟨Q, 0, none⟩ = some v := ⟨_, SQ.out.bk.cell 0⟩
        obtain ⟨v1, c1⟩ : ∃ v, w5.cell? ⟨Q, 1, none⟩ = some v := ⟨_, SQ.out.bk.cell 1⟩
        obtain ⟨v2, c2⟩ : ∃ v, w5.cell? ⟨Q, 2, none⟩ = some v := ⟨_, SQ.out.bk.cell 2⟩
        obtain ⟨v3, c3⟩ : ∃ v, w5.cell? ⟨Q, 3, none⟩ = some v := ⟨_, SQ.out.bk.cell 3⟩
        obtain ⟨v4, c4⟩ : ∃ v, w5.cell? ⟨Q, 4, none⟩ = some v := ⟨_, SQ.out.bk.cell 4⟩
        obtain ⟨v5, c5⟩ : ∃ v, w5.cell? ⟨Q, 5, none⟩ = some v := ⟨_, SQ.out.bk.cell 5⟩
        have f0 : w5.frozen? ⟨Q, 0, none⟩ = false := SQ.out.bk.free 0
        have f1 : w5.frozen? ⟨Q, 1, none⟩ = false := SQ.out.bk.free 1
        have f2 : w5.frozen? ⟨Q, 2, none⟩ = false := SQ.out.bk.free 2
        have f3 : w5.frozen? ⟨Q, 3, none⟩ = false := SQ.out.bk.free 3
        have f4 : w5.frozen? ⟨Q, 4, none⟩ = false := SQ.out.bk.free 4
        have f5 : w5.frozen? ⟨Q, 5, none⟩ = false := SQ.out.bk.free 5
        go_wp2_with fail
        have KF := SQ.out.bk.six (.int .i64 1) (.int .i64 0) (.string nn) (.string ⟨#[]⟩) (.slice A nA cap) (.bool true)
        have q0 : World.cell? (six Q w5 (.int .i64 1) (.int .i64 0) (.string nn) (.string ⟨#[]⟩) (.slice A nA cap) (.bool true)) ⟨Q, 0, none⟩ = some (.int .i64 1) := KF.cell 0
        have q1 : World.cell? (six Q w5 (.int .i64 1) (.int .i64 0) (.string nn) (.string ⟨#[]⟩) (.slice A nA cap) (.bool true)) ⟨Q, 1, none⟩ = some (.int .i64 0) := KF.cell 1
        have q2 : World.cell? (six Q w5 (.int .i64 1) (.int .i64 0) (.string nn) (.string ⟨#[]⟩) (.slice A nA cap) (.bool true)) ⟨Q, 2, none⟩ = some (.string nn) := KF.cell 2
        have q3 : World.cell? (six Q w5 (.int .i64 1) (.int .i64 0) (.string nn) (.string ⟨#[]⟩) (.slice A nA cap) (.bool true)) ⟨Q, 3, none⟩ = some (.string ⟨#[]⟩) := KF.cell 3
        have q4 : World.cell? (six Q w5 (.int .i64 1) (.int .i64 0) (.string nn) (.string ⟨#[]⟩) (.slice A nA cap) (.bool true)) ⟨Q, 4, none⟩ = some (.slice A nA cap) := KF.cell 4
        have q5 : World.cell? (six Q w5 (.int .i64 1) (.int .i64 0) (.string nn) (.string ⟨#[]⟩) (.slice A nA cap) (.bool true)) ⟨Q, 5, none⟩ = some (.bool true) := KF.cell 5
        refine bodyPost_ret (v := .tuple #[.agg #[.int .i64 1, .int .i64 0, .string nn, .string ⟨#[]⟩, .slice A nA cap, .bool true], .bool false]) (by simp [results, Tryz.results50, go_sem, q0, q1, q2, q3, q4, q5]) rfl ⟨⟨1, nn, ⟨#[]⟩, A, nA, cap, true, false, Z, rfl, six_tx T5.out (by have := SQ.out.lt; omega) _ _ _ _ _ _, ?_⟩, ?_⟩
        · exact TokIs.no HC.out
        · rw [HQ.out]; exact six_tn SQ.out.tn (Nat.le_refl _) _ _ _ _ _ _
    · have HC : Hid (openL r = none) := open_no (List.isEmpty_iff.1 HN1.out)
      have SQ0 := S4.out
      rw [hQ] at SQ0
      have SQ := Lib.hid SQ0
      clear SQ0
      obtain ⟨v0, c0⟩ : ∃ v, w4.cell? ⟨Q, 0, none⟩ = some v := ⟨_, SQ.out.bk.cell 0⟩
      obtain ⟨v1, c1⟩ : ∃ v, w4.cell? ⟨Q, 1, none⟩ = some v := ⟨_, SQ.out.bk.cell 1⟩
      obtain ⟨v2, c2⟩ : ∃ v, w4.cell? ⟨Q, 2, none⟩ = some v := ⟨_, SQ.out.bk.cell 2⟩
      obtain ⟨v3, c3⟩ : ∃ v, w4.cell? ⟨Q, 3, none⟩ = some v := ⟨_, SQ.out.bk.cell 3⟩
      obtain ⟨v4, c4⟩ : ∃ v, w4.cell? ⟨Q, 4, none⟩ = some v := ⟨_, SQ.out.bk.cell 4⟩
      obtain ⟨v5, c5⟩ : ∃ v, w4.cell? ⟨Q, 5, none⟩ = some v := ⟨_, SQ.out.bk.cell 5⟩
      have f0 : w4.frozen? ⟨Q, 0, none⟩ = false := SQ.out.bk.free 0
      have f1 : w4.frozen? ⟨Q, 1, none⟩ = false := SQ.out.bk.free 1
      have f2 : w4.frozen? ⟨Q, 2, none⟩ = false := SQ.out.bk.free 2
      have f3 : w4.frozen? ⟨Q, 3, none⟩ = false := SQ.out.bk.free 3
      have f4 : w4.frozen? ⟨Q, 4, none⟩ = false := SQ.out.bk.free 4
      have f5 : w4.frozen? ⟨Q, 5, none⟩ = false := SQ.out.bk.free 5
      go_wp2_with fail
      have KF := SQ.out.bk.six (.int .i64 1) (.int .i64 0) (.string nn) (.string ⟨#[]⟩) (.slice A nA cap) (.bool true)
      have q0 : World.cell? (six Q w4 (.int .i64 1) (.int .i64 0) (.string nn) (.string ⟨#[]⟩) (.slice A nA cap) (.bool true)) ⟨Q, 0, none⟩ = some (.int .i64 1) := KF.cell 0
      have q1 : World.cell? (six Q w4 (.int .i64 1) (.int .i64 0) (.string nn) (.string ⟨#[]⟩) (.slice A nA cap) (.bool true)) ⟨Q, 1, none⟩ = some (.int .i64 0) := KF.cell 1
      have q2 : World.cell? (six Q w4 (.int .i64 1) (.int .i64 0) (.string nn) (.string ⟨#[]⟩) (.slice A nA cap) (.bool true)) ⟨Q, 2, none⟩ = some (.string nn) := KF.cell 2
      have q3 : World.cell? (six Q w4 (.int .i64 1) (.int .i64 0) (.string nn) (.string ⟨#[]⟩) (.slice A nA cap) (.bool true)) ⟨Q, 3, none⟩ = some (.string ⟨#[]⟩) := KF.cell 3
      have q4 : World.cell? (six Q w4 (.int .i64 1) (.int .i64 0) (.string nn) (.string ⟨#[]⟩) (.slice A nA cap) (.bool true)) ⟨Q, 4, none⟩ = some (.slice A nA cap) := KF.cell 4
      have q5 : World.cell? (six Q w4 (.int .i64 1) (.int .i64 0) (.string nn) (.string ⟨#[]⟩) (.slice A nA cap) (.bool true)) ⟨Q, 5, none⟩ = some (.bool true) := KF.cell 5
      refine bodyPost_ret (v := .tuple #[.agg #[.int .i64 1, .int .i64 0, .string nn, .string ⟨#[]⟩, .slice A nA cap, .bool true], .bool false]) (by simp [results, Tryz.results50, go_sem, q0, q1, q2, q3, q4, q5]) rfl ⟨⟨1, nn, ⟨#[]⟩, A, nA, cap, true, false, Z, rfl, six_tx T4.out (by have := SQ.out.lt; omega) _ _ _ _ _ _, ?_⟩, ?_⟩
      · exact TokIs.no HC.out
      · rw [HQ.out]; exact six_tn SQ.out.tn (Nat.le_refl _) _ _ _ _ _ _
  · have HO := Lib.hid (HOV.out ⟨#[47]⟩ Y w3 T3.out (by show 1 ≤ 1000; omega))
    rw [show (⟨#[47]⟩ : ByteArray).data.toList = [47] from rfl, hp, ho] at HO
    have HE := Lib.hid (ends_two (n := (nameL r).1) (p := M) (Y := Y) HY.out hne)
    clear hp ho hne
    refine HO.out.mono ?_
    rintro e w4 ⟨rfl, t4, n4⟩
    have U4 := Lib.hid (U3.out.keep (by obtain ⟨cs, hc⟩ := T3.out.lo; exact KeepA.tn n4 hc (by decide)))
    have T4 := Lib.hid t4
    have S4 := Lib.hid (S3.out.step n4)
    clear t4 n4
    cases N
    · have HNE : Hid ((nameL r).1 ≠ []) := fun e => by have := HN1.out; rw [e] at this; cases this
      rcases one_prefix 62 Y with ⟨hp, r5, hr5, ho⟩ | ⟨hp, ho, hne⟩
      · have HO5 := Lib.hid (HOV.out ⟨#[62]⟩ Y w4 T4.out (by show 1 ≤ 1000; omega))
        rw [show (⟨#[62]⟩ : ByteArray).data.toList = [62] from rfl, hp, ho] at HO5
        have HC : Hid (openL r = some ((1, (nameL r).1, [], M.1, false), r5)) := by unfold Hid; rw [open_ends HNE.out, HM.out]; exact HE.out.1 r5 hr5
        clear hp ho hr5
        go_wp2_with fail
        refine HO5.out.mono ?_
        rintro e w5 ⟨rfl, t5, n5⟩
        have U5 := Lib.hid (U4.out.keep (by obtain ⟨cs, hc⟩ := T4.out.lo; exact KeepA.tn n5 hc (by decide)))
        have T5 := Lib.hid t5
        have S5 := Lib.hid (S4.out.step n5)
        clear t5 n5
        have SQ0 := S5.out
        rw [hQ] at SQ0
        have SQ := Lib.hid SQ0
        clear SQ0
        obtain ⟨v0, c0⟩ : ∃ v, w5.cell? ⟨Q, 0, none⟩ = some v := ⟨_, SQ.out.bk.cell 0⟩
        obtain ⟨v1, c1⟩ : ∃ v, w5.cell? ⟨Q, 1, none⟩ = some v := ⟨_, SQ.out.bk.cell 1⟩
        obtain ⟨v2, c2⟩ : ∃ v, w5.cell? ⟨Q, 2, none⟩ = some v := ⟨_, SQ.out.bk.cell 2⟩
        obtain ⟨v3, c3⟩ : ∃ v, w5.cell? ⟨Q, 3, none⟩ = some v := ⟨_, SQ.out.bk.cell 3⟩
        obtain ⟨v4, c4⟩ : ∃ v, w5.cell? ⟨Q, 4, none⟩ = some v := ⟨_, SQ.out.bk.cell 4⟩
        obtain ⟨v5, c5⟩ : ∃ v, w5.cell? ⟨Q, 5, none⟩ = some v := ⟨_, SQ.out.bk.cell 5⟩
        have f0 : w5.frozen? ⟨Q, 0, none⟩ = false := SQ.out.bk.free 0
        have f1 : w5.frozen? ⟨Q, 1, none⟩ = false := SQ.out.bk.free 1
        have f2 : w5.frozen? ⟨Q, 2, none⟩ = false := SQ.out.bk.free 2
        have f3 : w5.frozen? ⟨Q, 3, none⟩ = false := SQ.out.bk.free 3
        have f4 : w5.frozen? ⟨Q, 4, none⟩ = false := SQ.out.bk.free 4
        have f5 : w5.frozen? ⟨Q, 5, none⟩ = false := SQ.out.bk.free 5
        go_wp2_with fail
        have KF := SQ.out.bk.six (.int .i64 1) (.int .i64 0) (.string nn) (.string ⟨#[]⟩) (.slice A nA cap) (.bool false)
        have q0 : World.cell? (six Q w5 (.int .i64 1) (.int .i64 0) (.string nn) (.string ⟨#[]⟩) (.slice A nA cap) (.bool false)) ⟨Q, 0, none⟩ = some (.int .i64 1) := KF.cell 0
        have q1 : World.cell? (six Q w5 (.int .i64 1) (.int .i64 0) (.string nn) (.string ⟨#[]⟩) (.slice A nA cap) (.bool false)) ⟨Q, 1, none⟩ = some (.int .i64 0) := KF.cell 1
        have q2 : World.cell? (six Q w5 (.int .i64 1) (.int .i64 0) (.string nn) (.string ⟨#[]⟩) (.slice A nA cap) (.bool false)) ⟨Q, 2, none⟩ = some (.string nn) := KF.cell 2
        have q3 : World.cell? (six Q w5 (.int .i64 1) (.int .i64 0) (.string nn) (.string ⟨#[]⟩) (.slice A nA cap) (.bool false)) ⟨Q, 3, none⟩ = some (.string ⟨#[]⟩) := KF.cell 3
        have q4 : World.cell? (six Q w5 (.int .i64 1) (.int .i64 0) (.string nn) (.string ⟨#[]⟩) (.slice A nA cap) (.bool false)) ⟨Q, 4, none⟩ = some (.slice A nA cap) := KF.cell 4
        have q5 : World.cell? (six Q w5 (.int .i64 1) (.int .i64 0) (.string nn) (.string ⟨#[]⟩) (.slice A nA cap) (.bool false)) ⟨Q, 5, none⟩ = some (.bool false) := KF.cell 5
        refine bodyPost_ret (v := .tuple #[.agg #[.int .i64 1, .int .i64 0, .string nn, .string ⟨#[]⟩, .slice A nA cap, .bool false], .bool true]) (by simp [results, Tryz.results50, go_sem, q0, q1, q2, q3, q4, q5]) rfl ⟨⟨1, nn, ⟨#[]⟩, A, nA, cap, false, true, r5, rfl, six_tx T5.out (by have := SQ.out.lt; omega) _ _ _ _ _ _, ?_⟩, ?_⟩
        · exact TokIs.yes HC.out rfl HNN.out.symm rfl (U5.out.keep (six_keepA SQ.out.bk (by decide) _ _ _ _ _ _)) rfl
        · rw [HQ.out]; exact six_tn SQ.out.tn (Nat.le_refl _) _ _ _ _ _ _
      · have HO5 := Lib.hid (HOV.out ⟨#[62]⟩ Y w4 T4.out (by show 1 ≤ 1000; omega))
        rw [show (⟨#[62]⟩ : ByteArray).data.toList = [62] from rfl, hp, ho] at HO5
        have HC : Hid (openL r = none) := by unfold Hid; rw [open_ends HNE.out, HM.out]; exact HE.out.2 hne
        clear hp ho hne
        go_wp2_with fail
        refine HO5.out.mono ?_
        rintro e w5 ⟨rfl, t5, n5⟩
        have T5 := Lib.hid t5
        have S5 := Lib.hid (S4.out.step n5)
        clear t5 n5
        have SQ0 := S5.out
        rw [hQ] at SQ0
        have SQ := Lib.hid SQ0
        clear SQ0
        obtain ⟨v0, c0⟩ : ∃ v, w5.cell? ⟨Q, 0, none⟩ = some v := ⟨_, SQ.out.bk.cell 0⟩
        obtain ⟨v1, c1⟩ : ∃ v, w5.cell? ⟨Q, 1, none⟩ = some v := ⟨_, SQ.out.bk.cell 1⟩
        obtain ⟨v2, c2⟩ : ∃ v, w5.cell? ⟨Q, 2, none⟩ = some v := ⟨_, SQ.out.bk.cell 2⟩
        obtain ⟨v3, c3⟩ : ∃ v, w5.cell? ⟨Q, 3, none⟩ = some v := ⟨_, SQ.out.bk.cell 3⟩
        obtain ⟨v4, c4⟩ : ∃ v, w5.cell? ⟨Q, 4, none⟩ = some v := ⟨_, SQ.out.bk.cell 4⟩
        obtain ⟨v5, c5⟩ : ∃ v, w5.cell? ⟨Q, 5, none⟩ = some v := ⟨_, SQ.out.bk.cell 5⟩
        have f0 : w5.frozen? ⟨Q, 0, none⟩ = false := SQ.out.bk.free 0
        have f1 : w5.frozen? ⟨Q, 1, none⟩ = false := SQ.out.bk.free 1
        have f2 : w5.frozen? ⟨Q, 2, none⟩ = false := SQ.out.bk.free 2
        have f3 : w5.frozen? ⟨Q, 3, none⟩ = false := SQ.out.bk.free 3
        have f4 : w5.frozen? ⟨Q, 4, none⟩ = false := SQ.out.bk.free 4
        have f5 : w5.frozen? ⟨Q, 5, none⟩ = false := SQ.out.bk.free 5
        go_wp2_with fail
        have KF := SQ.out.bk.six (.int .i64 1) (.int .i64 0) (.string nn) (.string ⟨#[]⟩) (.slice A nA cap) (.bool false)
        have q0 : World.cell? (six Q w5 (.int .i64 1) (.int .i64 0) (.string nn) (.string ⟨#[]⟩) (.slice A nA cap) (.bool false)) ⟨Q, 0, none⟩ = some (.int .i64 1) := KF.cell 0
        have q1 : World.cell? (six Q w5 (.int .i64 1) (.int .i64 0) (.string nn) (.string ⟨#[]⟩) (.slice A nA cap) (.bool false)) ⟨Q, 1, none⟩ = some (.int .i64 0) := KF.cell 1
        have q2 : World.cell? (six Q w5 (.int .i64 1) (.int .i64 0) (.string nn) (.string ⟨#[]⟩) (.slice A nA cap) (.bool false)) ⟨Q, 2, none⟩ = some (.string nn) := KF.cell 2
        have q3 : World.cell? (six Q w5 (.int .i64 1) (.int .i64 0) (.string nn) (.string ⟨#[]⟩) (.slice A nA cap) (.bool false)) ⟨Q, 3, none⟩ = some (.string ⟨#[]⟩) := KF.cell 3
        have q4 : World.cell? (six Q w5 (.int .i64 1) (.int .i64 0) (.string nn) (.string ⟨#[]⟩) (.slice A nA cap) (.bool false)) ⟨Q, 4, none⟩ = some (.slice A nA cap) := KF.cell 4
        have q5 : World.cell? (six Q w5 (.int .i64 1) (.int .i64 0) (.string nn) (.string ⟨#[]⟩) (.slice A nA cap) (.bool false)) ⟨Q, 5, none⟩ = some (.bool false) := KF.cell 5
        refine bodyPost_ret (v := .tuple #[.agg #[.int .i64 1, .int .i64 0, .string nn, .string ⟨#[]⟩, .slice A nA cap, .bool false], .bool false]) (by simp [results, Tryz.results50, go_sem, q0, q1, q2, q3, q4, q5]) rfl ⟨⟨1, nn, ⟨#[]⟩, A, nA, cap, false, false, Y, rfl, six_tx T5.out (by have := SQ.out.lt; omega) _ _ _ _ _ _, ?_⟩, ?_⟩
        · exact TokIs.no HC.out
        · rw [HQ.out]; exact six_tn SQ.out.tn (Nat.le_refl _) _ _ _ _ _ _
    · have HC : Hid (openL r = none) := open_no (List.isEmpty_iff.1 HN1.out)
      have SQ0 := S4.out
      rw [hQ] at SQ0
      have SQ := Lib.hid SQ0
      clear SQ0
      obtain ⟨v0, c0⟩ : ∃ v, w4.cell? ⟨Q, 0, none⟩ = some v := ⟨_, SQ.out.bk.cell 0⟩
      obtain ⟨v1, c1⟩ : ∃ v, w4.cell? ⟨Q, 1, none⟩ = some v := ⟨_, SQ.out.bk.cell 1⟩
      obtain ⟨v2, c2⟩ : ∃ v, w4.cell? ⟨Q, 2, none⟩ = some v := ⟨_, SQ.out.bk.cell 2⟩
      obtain ⟨v3, c3⟩ : ∃ v, w4.cell? ⟨Q, 3, none⟩ = some v := ⟨_, SQ.out.bk.cell 3⟩
      obtain ⟨v4, c4⟩ : ∃ v, w4.cell? ⟨Q, 4, none⟩ = some v := ⟨_, SQ.out.bk.cell 4⟩
      obtain ⟨v5, c5⟩ : ∃ v, w4.cell? ⟨Q, 5, none⟩ = some v := ⟨_, SQ.out.bk.cell 5⟩
      have f0 : w4.frozen? ⟨Q, 0, none⟩ = false := SQ.out.bk.free 0
      have f1 : w4.frozen? ⟨Q, 1, none⟩ = false := SQ.out.bk.free 1
      have f2 : w4.frozen? ⟨Q, 2, none⟩ = false := SQ.out.bk.free 2
      have f3 : w4.frozen? ⟨Q, 3, none⟩ = false := SQ.out.bk.free 3
      have f4 : w4.frozen? ⟨Q, 4, none⟩ = false := SQ.out.bk.free 4
      have f5 : w4.frozen? ⟨Q, 5, none⟩ = false := SQ.out.bk.free 5
      go_wp2_with fail
      have KF := SQ.out.bk.six (.int .i64 1) (.int .i64 0) (.string nn) (.string ⟨#[]⟩) (.slice A nA cap) (.bool false)
      have q0 : World.cell? (six Q w4 (.int .i64 1) (.int .i64 0) (.string nn) (.string ⟨#[]⟩) (.slice A nA cap) (.bool false)) ⟨Q, 0, none⟩ = some (.int .i64 1) := KF.cell 0
      have q1 : World.cell? (six Q w4 (.int .i64 1) (.int .i64 0) (.string nn) (.string ⟨#[]⟩) (.slice A nA cap) (.bool false)) ⟨Q, 1, none⟩ = some (.int .i64 0) := KF.cell 1
      have q2 : World.cell? (six Q w4 (.int .i64 1) (.int .i64 0) (.string nn) (.string ⟨#[]⟩) (.slice A nA cap) (.bool false)) ⟨Q, 2, none⟩ = some (.string nn) := KF.cell 2
      have q3 : World.cell? (six Q w4 (.int .i64 1) (.int .i64 0) (.string nn) (.string ⟨#[]⟩) (.slice A nA cap) (.bool false)) ⟨Q, 3, none⟩ = some (.string ⟨#[]⟩) := KF.cell 3
      have q4 : World.cell? (six Q w4 (.int .i64 1) (.int .i64 0) (.string nn) (.string ⟨#[]⟩) (.slice A nA cap) (.bool false)) ⟨Q, 4, none⟩ = some (.slice A nA cap) := KF.cell 4
      have q5 : World.cell? (six Q w4 (.int .i64 1) (.int .i64 0) (.string nn) (.string ⟨#[]⟩) (.slice A nA cap) (.bool false)) ⟨Q, 5, none⟩ = some (.bool false) := KF.cell 5
      refine bodyPost_ret (v := .tuple #[.agg #[.int .i64 1, .int .i64 0, .string nn, .string ⟨#[]⟩, .slice A nA cap, .bool false], .bool false]) (by simp [results, Tryz.results50, go_sem, q0, q1, q2, q3, q4, q5]) rfl ⟨⟨1, nn, ⟨#[]⟩, A, nA, cap, false, false, Y, rfl, six_tx T4.out (by have := SQ.out.lt; omega) _ _ _ _ _ _, ?_⟩, ?_⟩
      · exact TokIs.no HC.out
      · rw [HQ.out]; exact six_tn SQ.out.tn (Nat.le_refl _) _ _ _ _ _ _
end Go.Proofs.YtbkfmbkamocllaaGreatDoor
