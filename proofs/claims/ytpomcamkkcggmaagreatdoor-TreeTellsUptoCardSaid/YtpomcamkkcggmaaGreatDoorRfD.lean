/- Texts laid together: RfD RfE RfF -/
import Derived.Test.YtpomcamkkcggmaaGreatDoorRfC
import Derived.Test.YtpomcamkkcggmaaGreatDoorTkE
import Derived.Test.YtpomcamkkcggmaaGreatDoorTkF
import Derived.Test.YtpomcamkkcggmaaGreatDoorTkT
/-
  cardexref08: an Open.
-/
namespace Go.Proofs.YtpomcamkkcggmaaGreatDoor
open Go.RowKit Tk

/-- how the document's loop stands -/
def RGo (o : Option (Tok × List UInt8)) (n : List UInt8) (al : List Att) (l : List UInt8) (ok : Bool) : Prop := match ok with
  | true => o = ends n (many nextA al l)
  | false => o = none
def okM (s : ByteArray) (T : Nat) (v : Value) (w : World) : Nat := match v with
  | .bool true => s.size - placeOf T w + 1
  | _ => 0
theorem okM_true (s : ByteArray) (T : Nat) (w : World) : okM s T (.bool true) w = s.size - placeOf T w + 1 := rfl
theorem okM_false (s : ByteArray) (T : Nat) (w : World) : okM s T (.bool false) w = 0 := rfl
theorem Bk.s4 {W : World} {g : Nat} {t : TypeId} {a b c d e f : Value} (h : Bk W g t #[a, b, c, d, e, f]) (u : Value) : Bk (W.setCell ⟨g, 4, none⟩ u) g t #[a, b, c, d, u, f] := by
  have := Bk.put h 4 u
  simpa using this
theorem Bk.s5 {W : World} {g : Nat} {t : TypeId} {a b c d e f : Value} (h : Bk W g t #[a, b, c, d, e, f]) (u : Value) : Bk (W.setCell ⟨g, 5, none⟩ u) g t #[a, b, c, d, e, u] := by
  have := Bk.put h 5 u
  simpa using this
theorem Bk.s02 {W : World} {g : Nat} {t : TypeId} {a b c d e f : Value} (h : Bk W g t #[a, b, c, d, e, f]) (u v : Value) : Bk ((W.setCell ⟨g, 0, none⟩ u).setCell ⟨g, 2, none⟩ v) g t #[u, b, v, d, e, f] := by
  have := Bk.put (Bk.put h 0 u) 2 v
  simpa using this
theorem Bk.s03 {W : World} {g : Nat} {t : TypeId} {a b c d e f : Value} (h : Bk W g t #[a, b, c, d, e, f]) (u v : Value) : Bk ((W.setCell ⟨g, 0, none⟩ u).setCell ⟨g, 3, none⟩ v) g t #[u, b, c, v, e, f] := by
  have := Bk.put (Bk.put h 0 u) 3 v
  simpa using this
theorem two_prefix (l : List UInt8) : ([47, 62].isPrefixOf l = true ∧ ∃ t, l = 47 :: 62 :: t ∧ over [47, 62] l = t) ∨ ([47, 62].isPrefixOf l = false ∧ over [47, 62] l = l ∧ ∀ t, l ≠ 47 :: 62 :: t) := by
  by_cases h : ∃ t, l = 47 :: 62 :: t
  · obtain ⟨t, rfl⟩ := h
    exact .inl ⟨by simp, t, rfl, by unfold over; simp⟩
  · have e : [47, 62].isPrefixOf l = false := by
      cases hp : [47, 62].isPrefixOf l with
      | false => rfl
      | true =>
        rw [List.isPrefixOf_iff_prefix] at hp
        obtain ⟨t, rfl⟩ := hp
        exact absurd ⟨t, rfl⟩ h
    exact .inr ⟨e, by unfold over; rw [e]; rfl, fun t ht => h ⟨t, ht⟩⟩
theorem open_none {l : List UInt8} (h : (nameL l).1 = []) : openL l = none := by unfold openL; rw [if_pos h]
theorem open_some {l : List UInt8} (h : (nameL l).1 ≠ []) : openL l = ends (nameL l).1 (many nextA [] (nameL l).2) := by unfold openL; rw [if_neg h]
set_option maxHeartbeats 8000000 in
set_option maxRecDepth 100000 in
theorem ropen_any (T : Nat) (p : Int) (s : ByteArray) (r : List UInt8) (w : World) (h : TX 84 w T s r) (hs : s.size ≤ 100000000) :
    Calls Tryz.prog 67 #[.pointer (some ⟨T, 0, none⟩), .agg #[.int .i64 0, .int .i64 p, .string ⟨#[]⟩, .string ⟨#[]⟩, .slice none 0 0, .bool false]] w fun e w' => TokOut 84 T s p (openL r) e w' ∧ Tn T w.heap.size w w' := by
  have HBL := Lib.hid (fun (r : List UInt8) (W : World) (a : TX 84 W T s r) => rblanks_any T s r W a hs)
  have HIS := Lib.hid (fun (m : ByteArray) (r : List UInt8) (W : World) (a : TX 84 W T s r) (b : m.size ≤ 1000) => ris_any T s m r W a hs b)
  have HPL := Lib.hid (fun (j : Nat) (W : World) (h : Bk W T 84 #[.string s, .int .i64 j]) => place_of h)
  obtain ⟨b3, hb3⟩ : ∃ b3, w.heap.size = b3 := ⟨_, rfl⟩
  obtain ⟨W1, hW1⟩ : ∃ W1, w.alloc (.cells #[.int .i64 0, .int .i64 p, .string ⟨#[]⟩, .string ⟨#[]⟩, .slice none 0 0, .bool false] 45) = W1 := ⟨_, rfl⟩
  obtain ⟨D, hD⟩ : ∃ D, W1.heap.size = D := ⟨_, rfl⟩
  obtain ⟨W2, hW2⟩ : ∃ W2, W1.alloc (.cells #[.int .i64 0, .int .i64 0, .string ⟨#[]⟩, .string ⟨#[]⟩, .slice none 0 0, .bool false] 45) = W2 := ⟨_, rfl⟩
  have hD1 : D = b3 + 1 := by rw [← hD, ← hW1, World.size_alloc, hb3]
  have hs2 : W2.heap.size = D + 1 := by rw [← hW2, World.size_alloc, hD]
  have hTw := h.lt
  have K2 : Hid (Bk W2 b3 45 #[.int .i64 0, .int .i64 p, .string ⟨#[]⟩, .string ⟨#[]⟩, .slice none 0 0, .bool false]) := by rw [← hW2, ← hW1, ← hb3]; exact (Bk.new _ _ _).alloc _
  have D2 : Hid (Bk W2 D 45 tok0) := by rw [← hW2, ← hD]; exact Bk.new _ _ _
  have T2 : Hid (TX 84 W2 T s r) := by rw [← hW2, ← hW1]; exact (h.alloc _).alloc _
  have N2 : Hid (Tn T w.heap.size w W2) := by rw [← hW2, ← hW1]; exact ((Tn.refl _ _ _).alloc (Nat.le_refl _) _).alloc (by rw [World.size_alloc]; omega) _
  have HNA := Lib.hid (rname_any T s r W2 T2.out hs)
  obtain ⟨nn, hnn⟩ : ∃ nn, bts (nameL r).1 = nn := ⟨_, rfl⟩
  have hN := empty_bts (nameL r).1
  rw [hnn] at HNA hN
  obtain ⟨N, hN1⟩ : ∃ N, (nameL r).1.isEmpty = N := ⟨_, rfl⟩
  rw [hN1] at hN
  have HN1 := Lib.hid hN1
  have HNN := Lib.hid hnn
  have HB3 := Lib.hid hb3
  have HBD : Hid (b3 < D) := by unfold Hid; omega
  have HTD : Hid (T < D) := by unfold Hid; omega
  have HTB : Hid (T < b3) := by unfold Hid; omega
  have HZ2 : Hid (D + 1 ≤ W2.heap.size) := Nat.le_of_eq hs2.symm
  clear h hTw hs2 hD1 hnn hN1
  go_enter Tryz.func67, Tryz.ntmps67
  go_wp2_with fail
  clear hW1 hW2 hD hb3
  refine HNA.out.mono ?_
  rintro e w3 ⟨rfl, ⟨r3, t3, hr3⟩, n3⟩
  have T3 := Lib.hid t3
  have K3 := Lib.hid (n3.bk K2.out K2.out.lt (by have := HTB.out; omega))
  have D3 := Lib.hid (n3.bk D2.out D2.out.lt (by have := HTD.out; omega))
  have N3 : Hid (Tn T w.heap.size w w3) := N2.out.then n3 (by have := HZ2.out; have := HB3.out; have := HBD.out; omega)
  have Z3 : Hid (D + 1 ≤ w3.heap.size) := Nat.le_trans HZ2.out n3.size
  have R3 := Lib.hid hr3
  obtain ⟨x0, c0⟩ : ∃ v, w3.cell? ⟨b3, 0, none⟩ = some v := ⟨_, K3.out.cell 0⟩
  obtain ⟨x2, c2⟩ : ∃ v, w3.cell? ⟨b3, 2, none⟩ = some v := ⟨_, K3.out.cell 2⟩
  have f0 : w3.frozen? ⟨b3, 0, none⟩ = false := K3.out.free 0
  have f2 : w3.frozen? ⟨b3, 2, none⟩ = false := K3.out.free 2
  clear t3 n3 hr3
  go_upto_region 2 with fail
  obtain ⟨W4, hW4⟩ : ∃ W4, (w3.setCell ⟨b3, 0, none⟩ (.int .i64 1)).setCell ⟨b3, 2, none⟩ (.string nn) = W4 := ⟨_, rfl⟩
  have K4 : Hid (Bk W4 b3 45 #[.int .i64 1, .int .i64 p, .string nn, .string ⟨#[]⟩, .slice none 0 0, .bool false]) := by rw [← hW4]; exact K3.out.s02 _ _
  have D4 : Hid (Bk W4 D 45 tok0) := by rw [← hW4]; exact (D3.out.far (p := ⟨b3, 0, none⟩) (by have := HBD.out; show D ≠ b3; omega) _).far (p := ⟨b3, 2, none⟩) (by have := HBD.out; show D ≠ b3; omega) _
  have T4 : Hid (TX 84 W4 T s r3) := by rw [← hW4]; exact (T3.out.far (p := ⟨b3, 0, none⟩) (by have := HTB.out; show T ≠ b3; omega) _).far (p := ⟨b3, 2, none⟩) (by have := HTB.out; show T ≠ b3; omega) _
  have N4 : Hid (Tn T w.heap.size w W4) := by rw [← hW4]; exact (N3.out.setHigh (p := ⟨b3, 0, none⟩) (Nat.le_of_eq HB3.out) _).setHigh (p := ⟨b3, 2, none⟩) (Nat.le_of_eq HB3.out) _
  have Z4 : Hid (D + 1 ≤ W4.heap.size) := by rw [← hW4]; exact Nat.le_trans Z3.out (by simp [World.setCell])
  have g2 : W4.cell? ⟨b3, 2, none⟩ = some (.string nn) := K4.out.cell 2
  rw [hW4]
  clear hW4 c0 c2 f0 f2
  go_wp2_with fail
  go_loopw [6] (fun okv wr => ∃ (al : List Att) (l : List UInt8) (v : Value) (ok : Bool), okv = .bool ok ∧ Hid (RGo (openL r) (nameL r).1 al l ok) ∧ Hid (Bk wr b3 45 #[.int .i64 1, .int .i64 p, .string nn, .string ⟨#[]⟩, v, .bool false]) ∧ Hid (ok = true → OwnA (D + 1) wr v al) ∧ Hid (∃ A n cap, v = .slice A n cap) ∧ Hid (Bk wr D 45 tok0) ∧ Hid (TX 84 wr T s l) ∧ Hid (Tn T w.heap.size w wr) ∧ Hid (D + 1 ≤ wr.heap.size) ∧ Hid (ok = true → al.length + l.length ≤ s.size)) (fun okv wr => okM s T okv wr)
  case atStart =>
    refine ⟨[], r3, .slice none 0 0, !N, rfl, ?_, K4.out, fun _ => OwnA.nil _ _, ⟨_, _, _, rfl⟩, D4.out, T4.out, N4.out, Z4.out, fun _ => by have := T4.out.len; simpa using this⟩
    unfold Hid RGo
    cases hN2 : N with
    | true => exact open_none (List.isEmpty_iff.1 (HN1.out.trans hN2))
    | false =>
      have hne : (nameL r).1 ≠ [] := fun e => by have := HN1.out.trans hN2; rw [e] at this; cases this
      show openL r = _
      rw [open_some hne, R3.out hne]
  case round =>
    obtain ⟨al, l, v, ok, rfl, hgo, hk3, hown, hvs, hd, htx, htn, hz, hlen⟩ := hrel
    obtain ⟨A, n, cap, rfl⟩ := hvs.out
    clear g2
    cases ok with
    | false =>
      have hnone : Hid (openL r = none) := hgo.out
      go_upto_region 13 with fail
      have c0 : wr.cell? ⟨b3, 0, none⟩ = some (.int .i64 1) := hk3.out.cell 0
      have c1 : wr.cell? ⟨b3, 1, none⟩ = some (.int .i64 p) := hk3.out.cell 1
      have c2 : wr.cell? ⟨b3, 2, none⟩ = some (.string nn) := hk3.out.cell 2
      have c3 : wr.cell? ⟨b3, 3, none⟩ = some (.string ⟨#[]⟩) := hk3.out.cell 3
      have c4 : wr.cell? ⟨b3, 4, none⟩ = some (.slice A n cap) := hk3.out.cell 4
      have c5 : wr.cell? ⟨b3, 5, none⟩ = some (.bool false) := hk3.out.cell 5
      obtain ⟨v0, d0⟩ : ∃ v, wr.cell? ⟨D, 0, none⟩ = some v := ⟨_, hd.out.cell 0⟩
      obtain ⟨v1, d1⟩ : ∃ v, wr.cell? ⟨D, 1, none⟩ = some v := ⟨_, hd.out.cell 1⟩
      obtain ⟨v2, d2⟩ : ∃ v, wr.cell? ⟨D, 2, none⟩ = some v := ⟨_, hd.out.cell 2⟩
      obtain ⟨v3, d3⟩ : ∃ v, wr.cell? ⟨D, 3, none⟩ = some v := ⟨_, hd.out.cell 3⟩
      obtain ⟨v4, d4⟩ : ∃ v, wr.cell? ⟨D, 4, none⟩ = some v := ⟨_, hd.out.cell 4⟩
      obtain ⟨v5, d5⟩ : ∃ v, wr.cell? ⟨D, 5, none⟩ = some v := ⟨_, hd.out.cell 5⟩
      have h0 : wr.frozen? ⟨D, 0, none⟩ = false := hd.out.free 0
      have h1 : wr.frozen? ⟨D, 1, none⟩ = false := hd.out.free 1
      have h2 : wr.frozen? ⟨D, 2, none⟩ = false := hd.out.free 2
      have h3 : wr.frozen? ⟨D, 3, none⟩ = false := hd.out.free 3
      have h4 : wr.frozen? ⟨D, 4, none⟩ = false := hd.out.free 4
      have h5 : wr.frozen? ⟨D, 5, none⟩ = false := hd.out.free 5
      go_wp2_with fail
      have KF := hd.out.six (.int .i64 1) (.int .i64 p) (.string nn) (.string ⟨#[]⟩) (.slice A n cap) (.bool false)
      have q0 : World.cell? (six D wr (.int .i64 1) (.int .i64 p) (.string nn) (.string ⟨#[]⟩) (.slice A n cap) (.bool false)) ⟨D, 0, none⟩ = some (.int .i64 1) := KF.cell 0
      have q1 : World.cell? (six D wr (.int .i64 1) (.int .i64 p) (.string nn) (.string ⟨#[]⟩) (.slice A n cap) (.bool false)) ⟨D, 1, none⟩ = some (.int .i64 p) := KF.cell 1
      have q2 : World.cell? (six D wr (.int .i64 1) (.int .i64 p) (.string nn) (.string ⟨#[]⟩) (.slice A n cap) (.bool false)) ⟨D, 2, none⟩ = some (.string nn) := KF.cell 2
      have q3 : World.cell? (six D wr (.int .i64 1) (.int .i64 p) (.string nn) (.string ⟨#[]⟩) (.slice A n cap) (.bool false)) ⟨D, 3, none⟩ = some (.string ⟨#[]⟩) := KF.cell 3
      have q4 : World.cell? (six D wr (.int .i64 1) (.int .i64 p) (.string nn) (.string ⟨#[]⟩) (.slice A n cap) (.bool false)) ⟨D, 4, none⟩ = some (.slice A n cap) := KF.cell 4
      have q5 : World.cell? (six D wr (.int .i64 1) (.int .i64 p) (.string nn) (.string ⟨#[]⟩) (.slice A n cap) (.bool false)) ⟨D, 5, none⟩ = some (.bool false) := KF.cell 5
      refine bodyPost_ret (v := .tuple #[.agg #[.int .i64 1, .int .i64 p, .string nn, .string ⟨#[]⟩, .slice A n cap, .bool false], .bool false]) (by simp [results, Tryz.results67, go_sem, q0, q1, q2, q3, q4, q5]) rfl ⟨⟨1, nn, ⟨#[]⟩, A, n, cap, false, false, l, rfl, six_tx htx.out (by have := HTD.out; omega) _ _ _ _ _ _, ?_⟩, ?_⟩
      · exact TokIs.no hnone.out
      · exact six_tn htn.out (by have := HBD.out; have := HB3.out; omega) _ _ _ _ _ _
    | true =>
      have hown1 := Lib.hid (hown.out rfl)
      have hlen1 := Lib.hid (hlen.out rfl)
      have hends : Hid (openL r = ends (nameL r).1 (many nextA al l)) := hgo.out
      obtain ⟨A', cap', e'⟩ := hown1.out.slice
      injection e' with e1 e2 e3
      subst e2 e3 e1
      have HLP : Hid (∃ k : Nat, placeOf T wr = k ∧ s.size - l.length = k) := by obtain ⟨k, _, _, hk, hk2⟩ := htx.out.at; exact ⟨k, HPL.out k wr hk, hk2⟩
      go_wp2_with fail
      refine (HBL.out l wr htx.out).mono ?_
      rintro e w5 ⟨rfl, t5, n5⟩
      obtain ⟨l1, hl1⟩ : ∃ l1, l.dropWhile bl = l1 := ⟨_, rfl⟩
      rw [hl1] at t5
      have HL1 := Lib.hid hl1
      obtain ⟨nb, hnb⟩ : ∃ nb, (l.takeWhile bl).length = nb := ⟨_, rfl⟩
      have HNB := Lib.hid hnb
      rw [hnb]
      have hnbs : nb ≤ s.size := by have := while_len bl l; have := hlen1.out; omega
      have T5 := Lib.hid t5
      have K5 := Lib.hid (n5.bk hk3.out hk3.out.lt (by have := HTB.out; omega))
      have D5 := Lib.hid (n5.bk hd.out hd.out.lt (by have := HTD.out; omega))
      have N5 : Hid (Tn T w.heap.size w w5) := htn.out.then n5 (by have := hz.out; have := HB3.out; have := HBD.out; omega)
      have O5 := Lib.hid (hown1.out.tn n5 (by have := HTD.out; omega))
      have Z5 : Hid (D + 1 ≤ w5.heap.size) := Nat.le_trans hz.out n5.size
      clear t5 n5 hl1 hnb
      rcases two_prefix l1 with ⟨hp, t6, ht6, ho⟩ | ⟨hp, ho, hn6⟩
      · have HI := Lib.hid (HIS.out ⟨#[47, 62]⟩ l1 w5 T5.out (by show 2 ≤ 1000; omega))
        rw [show (⟨#[47, 62]⟩ : ByteArray).data.toList = [47, 62] from rfl, hp, ho] at HI
        have hres : Hid (openL r = some ((1, (nameL r).1, [], al, true), t6)) := by unfold Hid; rw [hends.out]; exact ends_empty _ _ (by rw [HL1.out]; exact ht6)
        clear hp ho ht6
        go_wp2_with fail
        refine HI.out.mono ?_
        rintro e w6 ⟨rfl, t6', n6⟩
        have T6 := Lib.hid t6'
        have K6 := Lib.hid (n6.bk K5.out K5.out.lt (by have := HTB.out; omega))
        have D6 := Lib.hid (n6.bk D5.out D5.out.lt (by have := HTD.out; omega))
        have N6 : Hid (Tn T w.heap.size w w6) := N5.out.then n6 (by have := Z5.out; have := HB3.out; have := HBD.out; omega)
        have O6 := Lib.hid (O5.out.tn n6 (by have := HTD.out; omega))
        clear t6' n6
        obtain ⟨x5, k5⟩ : ∃ v, w6.cell? ⟨b3, 5, none⟩ = some v := ⟨_, K6.out.cell 5⟩
        have f5 : w6.frozen? ⟨b3, 5, none⟩ = false := K6.out.free 5
        go_upto_region 7 with fail
        obtain ⟨W7, hW7⟩ : ∃ W7, w6.setCell ⟨b3, 5, none⟩ (.bool true) = W7 := ⟨_, rfl⟩
        have K7 : Hid (Bk W7 b3 45 #[.int .i64 1, .int .i64 p, .string nn, .string ⟨#[]⟩, .slice A al.length cap, .bool true]) := by rw [← hW7]; exact K6.out.s5 _
        have D7 : Hid (Bk W7 D 45 tok0) := by rw [← hW7]; exact D6.out.far (p := ⟨b3, 5, none⟩) (by have := HBD.out; show D ≠ b3; omega) _
        have T7 : Hid (TX 84 W7 T s t6) := by rw [← hW7]; exact T6.out.far (p := ⟨b3, 5, none⟩) (by have := HTB.out; show T ≠ b3; omega) _
        have N7 : Hid (Tn T w.heap.size w W7) := by rw [← hW7]; exact N6.out.setHigh (p := ⟨b3, 5, none⟩) (Nat.le_of_eq HB3.out) _
        have O7 : Hid (RowA W7 (.slice A al.length cap) al) := by rw [← hW7]; exact O6.out.row.keep (KeepA.set K6.out (by decide) _ _)
        rw [hW7]
        clear hW7 k5 f5
        have c0 : W7.cell? ⟨b3, 0, none⟩ = some (.int .i64 1) := K7.out.cell 0
        have c1 : W7.cell? ⟨b3, 1, none⟩ = some (.int .i64 p) := K7.out.cell 1
        have c2 : W7.cell? ⟨b3, 2, none⟩ = some (.string nn) := K7.out.cell 2
        have c3 : W7.cell? ⟨b3, 3, none⟩ = some (.string ⟨#[]⟩) := K7.out.cell 3
        have c4 : W7.cell? ⟨b3, 4, none⟩ = some (.slice A al.length cap) := K7.out.cell 4
        have c5 : W7.cell? ⟨b3, 5, none⟩ = some (.bool true) := K7.out.cell 5
        obtain ⟨v0, d0⟩ : ∃ v, W7.cell? ⟨D, 0, none⟩ = some v := ⟨_, D7.out.cell 0⟩
        obtain ⟨v1, d1⟩ : ∃ v, W7.cell? ⟨D, 1, none⟩ = some v := ⟨_, D7.out.cell 1⟩
        obtain ⟨v2, d2⟩ : ∃ v, W7.cell? ⟨D, 2, none⟩ = some v := ⟨_, D7.out.cell 2⟩
        obtain ⟨v3, d3⟩ : ∃ v, W7.cell? ⟨D, 3, none⟩ = some v := ⟨_, D7.out.cell 3⟩
        obtain ⟨v4, d4⟩ : ∃ v, W7.cell? ⟨D, 4, none⟩ = some v := ⟨_, D7.out.cell 4⟩
        obtain ⟨v5, d5⟩ : ∃ v, W7.cell? ⟨D, 5, none⟩ = some v := ⟨_, D7.out.cell 5⟩
        have h0 : W7.frozen? ⟨D, 0, none⟩ = false := D7.out.free 0
        have h1 : W7.frozen? ⟨D, 1, none⟩ = false := D7.out.free 1
        have h2 : W7.frozen? ⟨D, 2, none⟩ = false := D7.out.free 2
        have h3 : W7.frozen? ⟨D, 3, none⟩ = false := D7.out.free 3
        have h4 : W7.frozen? ⟨D, 4, none⟩ = false := D7.out.free 4
        have h5 : W7.frozen? ⟨D, 5, none⟩ = false := D7.out.free 5
        go_wp2_with fail
        have KF := D7.out.six (.int .i64 1) (.int .i64 p) (.string nn) (.string ⟨#[]⟩) (.slice A al.length cap) (.bool true)
        have q0 : World.cell? (six D W7 (.int .i64 1) (.int .i64 p) (.string nn) (.string ⟨#[]⟩) (.slice A al.length cap) (.bool true)) ⟨D, 0, none⟩ = some (.int .i64 1) := KF.cell 0
        have q1 : World.cell? (six D W7 (.int .i64 1) (.int .i64 p) (.string nn) (.string ⟨#[]⟩) (.slice A al.length cap) (.bool true)) ⟨D, 1, none⟩ = some (.int .i64 p) := KF.cell 1
        have q2 : World.cell? (six D W7 (.int .i64 1) (.int .i64 p) (.string nn) (.string ⟨#[]⟩) (.slice A al.length cap) (.bool true)) ⟨D, 2, none⟩ = some (.string nn) := KF.cell 2
        have q3 : World.cell? (six D W7 (.int .i64 1) (.int .i64 p) (.string nn) (.string ⟨#[]⟩) (.slice A al.length cap) (.bool true)) ⟨D, 3, none⟩ = some (.string ⟨#[]⟩) := KF.cell 3
        have q4 : World.cell? (six D W7 (.int .i64 1) (.int .i64 p) (.string nn) (.string ⟨#[]⟩) (.slice A al.length cap) (.bool true)) ⟨D, 4, none⟩ = some (.slice A al.length cap) := KF.cell 4
        have q5 : World.cell? (six D W7 (.int .i64 1) (.int .i64 p) (.string nn) (.string ⟨#[]⟩) (.slice A al.length cap) (.bool true)) ⟨D, 5, none⟩ = some (.bool true) := KF.cell 5
        refine bodyPost_ret (v := .tuple #[.agg #[.int .i64 1, .int .i64 p, .string nn, .string ⟨#[]⟩, .slice A al.length cap, .bool true], .bool true]) (by simp [results, Tryz.results67, go_sem, q0, q1, q2, q3, q4, q5]) rfl ⟨⟨1, nn, ⟨#[]⟩, A, al.length, cap, true, true, t6, rfl, six_tx T7.out (by have := HTD.out; omega) _ _ _ _ _ _, ?_⟩, ?_⟩
        · exact TokIs.yes hres.out rfl HNN.out.symm rfl (O7.out.keep (six_keepA D7.out (by decide) _ _ _ _ _ _)) rfl
        · exact six_tn N7.out (by have := HBD.out; have := HB3.out; omega) _ _ _ _ _ _
      · have HI := Lib.hid (HIS.out ⟨#[47, 62]⟩ l1 w5 T5.out (by show 2 ≤ 1000; omega))
        rw [show (⟨#[47, 62]⟩ : ByteArray).data.toList = [47, 62] from rfl, hp, ho] at HI
        have HN6 := Lib.hid hn6
        clear hp ho hn6
        go_wp2_with fail
        refine HI.out.mono ?_
        rintro e w6 ⟨rfl, t6', n6⟩
        have T6 := Lib.hid t6'
        have K6 := Lib.hid (n6.bk K5.out K5.out.lt (by have := HTB.out; omega))
        have D6 := Lib.hid (n6.bk D5.out D5.out.lt (by have := HTD.out; omega))
        have N6 : Hid (Tn T w.heap.size w w6) := N5.out.then n6 (by have := Z5.out; have := HB3.out; have := HBD.out; omega)
        have O6 := Lib.hid (O5.out.tn n6 (by have := HTD.out; omega))
        have Z6 : Hid (D + 1 ≤ w6.heap.size) := Nat.le_trans Z5.out n6.size
        clear t6' n6
        rcases one_prefix 62 l1 with ⟨hp, t7, ht7, ho⟩ | ⟨hp, ho, hn7⟩
        · have HI2 := Lib.hid (HIS.out ⟨#[62]⟩ l1 w6 T6.out (by show 1 ≤ 1000; omega))
          rw [show (⟨#[62]⟩ : ByteArray).data.toList = [62] from rfl, hp, ho] at HI2
          have hres : Hid (openL r = some ((1, (nameL r).1, [], al, false), t7)) := by unfold Hid; rw [hends.out]; exact ends_not _ _ (by rw [HL1.out]; exact ht7)
          clear hp ho ht7
          go_wp2_with fail
          refine HI2.out.mono ?_
          rintro e w7 ⟨rfl, t7', n7⟩
          have T7 := Lib.hid t7'
          have K7 := Lib.hid (n7.bk K6.out K6.out.lt (by have := HTB.out; omega))
          have D7 := Lib.hid (n7.bk D6.out D6.out.lt (by have := HTD.out; omega))
          have N7 : Hid (Tn T w.heap.size w w7) := N6.out.then n7 (by have := Z6.out; have := HB3.out; have := HBD.out; omega)
          have O7 := Lib.hid (O6.out.tn n7 (by have := HTD.out; omega)).row
          clear t7' n7
          go_upto_region 9 with fail
          have c0 : w7.cell? ⟨b3, 0, none⟩ = some (.int .i64 1) := K7.out.cell 0
          have c1 : w7.cell? ⟨b3, 1, none⟩ = some (.int .i64 p) := K7.out.cell 1
          have c2 : w7.cell? ⟨b3, 2, none⟩ = some (.string nn) := K7.out.cell 2
          have c3 : w7.cell? ⟨b3, 3, none⟩ = some (.string ⟨#[]⟩) := K7.out.cell 3
          have c4 : w7.cell? ⟨b3, 4, none⟩ = some (.slice A al.length cap) := K7.out.cell 4
          have c5 : w7.cell? ⟨b3, 5, none⟩ = some (.bool false) := K7.out.cell 5
          obtain ⟨v0, d0⟩ : ∃ v, w7.cell? ⟨D, 0, none⟩ = some v := ⟨_, D7.out.cell 0⟩
          obtain ⟨v1, d1⟩ : ∃ v, w7.cell? ⟨D, 1, none⟩ = some v := ⟨_, D7.out.cell 1⟩
          obtain ⟨v2, d2⟩ : ∃ v, w7.cell? ⟨D, 2, none⟩ = some v := ⟨_, D7.out.cell 2⟩
          obtain ⟨v3, d3⟩ : ∃ v, w7.cell? ⟨D, 3, none⟩ = some v := ⟨_, D7.out.cell 3⟩
          obtain ⟨v4, d4⟩ : ∃ v, w7.cell? ⟨D, 4, none⟩ = some v := ⟨_, D7.out.cell 4⟩
          obtain ⟨v5, d5⟩ : ∃ v, w7.cell? ⟨D, 5, none⟩ = some v := ⟨_, D7.out.cell 5⟩
          have h0 : w7.frozen? ⟨D, 0, none⟩ = false := D7.out.free 0
          have h1 : w7.frozen? ⟨D, 1, none⟩ = false := D7.out.free 1
          have h2 : w7.frozen? ⟨D, 2, none⟩ = false := D7.out.free 2
          have h3 : w7.frozen? ⟨D, 3, none⟩ = false := D7.out.free 3
          have h4 : w7.frozen? ⟨D, 4, none⟩ = false := D7.out.free 4
          have h5 : w7.frozen? ⟨D, 5, none⟩ = false := D7.out.free 5
          go_wp2_with fail
          have KF := D7.out.six (.int .i64 1) (.int .i64 p) (.string nn) (.string ⟨#[]⟩) (.slice A al.length cap) (.bool false)
          have q0 : World.cell? (six D w7 (.int .i64 1) (.int .i64 p) (.string nn) (.string ⟨#[]⟩) (.slice A al.length cap) (.bool false)) ⟨D, 0, none⟩ = some (.int .i64 1) := KF.cell 0
          have q1 : World.cell? (six D w7 (.int .i64 1) (.int .i64 p) (.string nn) (.string ⟨#[]⟩) (.slice A al.length cap) (.bool false)) ⟨D, 1, none⟩ = some (.int .i64 p) := KF.cell 1
          have q2 : World.cell? (six D w7 (.int .i64 1) (.int .i64 p) (.string nn) (.string ⟨#[]⟩) (.slice A al.length cap) (.bool false)) ⟨D, 2, none⟩ = some (.string nn) := KF.cell 2
          have q3 : World.cell? (six D w7 (.int .i64 1) (.int .i64 p) (.string nn) (.string ⟨#[]⟩) (.slice A al.length cap) (.bool false)) ⟨D, 3, none⟩ = some (.string ⟨#[]⟩) := KF.cell 3
          have q4 : World.cell? (six D w7 (.int .i64 1) (.int .i64 p) (.string nn) (.string ⟨#[]⟩) (.slice A al.length cap) (.bool false)) ⟨D, 4, none⟩ = some (.slice A al.length cap) := KF.cell 4
          have q5 : World.cell? (six D w7 (.int .i64 1) (.int .i64 p) (.string nn) (.string ⟨#[]⟩) (.slice A al.length cap) (.bool false)) ⟨D, 5, none⟩ = some (.bool false) := KF.cell 5
          refine bodyPost_ret (v := .tuple #[.agg #[.int .i64 1, .int .i64 p, .string nn, .string ⟨#[]⟩, .slice A al.length cap, .bool false], .bool true]) (by simp [results, Tryz.results67, go_sem, q0, q1, q2, q3, q4, q5]) rfl ⟨⟨1, nn, ⟨#[]⟩, A, al.length, cap, false, true, t7, rfl, six_tx T7.out (by have := HTD.out; omega) _ _ _ _ _ _, ?_⟩, ?_⟩
          · exact TokIs.yes hres.out rfl HNN.out.symm rfl (O7.out.keep (six_keepA D7.out (by decide) _ _ _ _ _ _)) rfl
          · exact six_tn N7.out (by have := HBD.out; have := HB3.out; omega) _ _ _ _ _ _
        · have HI2 := Lib.hid (HIS.out ⟨#[62]⟩ l1 w6 T6.out (by show 1 ≤ 1000; omega))
          rw [show (⟨#[62]⟩ : ByteArray).data.toList = [62] from rfl, hp, ho] at HI2
          have HN7 := Lib.hid hn7
          clear hp ho hn7
          go_wp2_with fail
          refine HI2.out.mono ?_
          rintro e w7 ⟨rfl, t7', n7⟩
          have T7 := Lib.hid t7'
          have K7 := Lib.hid (n7.bk K6.out K6.out.lt (by have := HTB.out; omega))
          have D7 := Lib.hid (n7.bk D6.out D6.out.lt (by have := HTD.out; omega))
          have N7 : Hid (Tn T w.heap.size w w7) := N6.out.then n7 (by have := Z6.out; have := HB3.out; have := HBD.out; omega)
          have O7 := Lib.hid (O6.out.tn n7 (by have := HTD.out; omega))
          have Z7 : Hid (D + 1 ≤ w7.heap.size) := Nat.le_trans Z6.out n7.size
          clear t7' n7
          by_cases hnb0 : nb = 0
          · have hres : Hid (openL r = none) := by
              unfold Hid
              rw [hends.out]
              refine ends_bad _ _ (nextA_nogap (List.eq_nil_of_length_eq_zero (HNB.out.trans hnb0))) ?_ ?_
              · rw [HL1.out]; exact HN6.out
              · rw [HL1.out]; exact HN7.out
            have gnb : ((nb : Int) == 0) = true := by simp; omega
            go_upto_region 11 with fail
            have c0 : w7.cell? ⟨b3, 0, none⟩ = some (.int .i64 1) := K7.out.cell 0
            have c1 : w7.cell? ⟨b3, 1, none⟩ = some (.int .i64 p) := K7.out.cell 1
            have c2 : w7.cell? ⟨b3, 2, none⟩ = some (.string nn) := K7.out.cell 2
            have c3 : w7.cell? ⟨b3, 3, none⟩ = some (.string ⟨#[]⟩) := K7.out.cell 3
            have c4 : w7.cell? ⟨b3, 4, none⟩ = some (.slice A al.length cap) := K7.out.cell 4
            have c5 : w7.cell? ⟨b3, 5, none⟩ = some (.bool false) := K7.out.cell 5
            obtain ⟨v0, d0⟩ : ∃ v, w7.cell? ⟨D, 0, none⟩ = some v := ⟨_, D7.out.cell 0⟩
            obtain ⟨v1, d1⟩ : ∃ v, w7.cell? ⟨D, 1, none⟩ = some v := ⟨_, D7.out.cell 1⟩
            obtain ⟨v2, d2⟩ : ∃ v, w7.cell? ⟨D, 2, none⟩ = some v := ⟨_, D7.out.cell 2⟩
            obtain ⟨v3, d3⟩ : ∃ v, w7.cell? ⟨D, 3, none⟩ = some v := ⟨_, D7.out.cell 3⟩
            obtain ⟨v4, d4⟩ : ∃ v, w7.cell? ⟨D, 4, none⟩ = some v := ⟨_, D7.out.cell 4⟩
            obtain ⟨v5, d5⟩ : ∃ v, w7.cell? ⟨D, 5, none⟩ = some v := ⟨_, D7.out.cell 5⟩
            have h0 : w7.frozen? ⟨D, 0, none⟩ = false := D7.out.free 0
            have h1 : w7.frozen? ⟨D, 1, none⟩ = false := D7.out.free 1
            have h2 : w7.frozen? ⟨D, 2, none⟩ = false := D7.out.free 2
            have h3 : w7.frozen? ⟨D, 3, none⟩ = false := D7.out.free 3
            have h4 : w7.frozen? ⟨D, 4, none⟩ = false := D7.out.free 4
            have h5 : w7.frozen? ⟨D, 5, none⟩ = false := D7.out.free 5
            go_wp2_with fail
            have KF := D7.out.six (.int .i64 1) (.int .i64 p) (.string nn) (.string ⟨#[]⟩) (.slice A al.length cap) (.bool false)
            have q0 : World.cell? (six D w7 (.int .i64 1) (.int .i64 p) (.string nn) (.string ⟨#[]⟩) (.slice A al.length cap) (.bool false)) ⟨D, 0, none⟩ = some (.int .i64 1) := KF.cell 0
            have q1 : World.cell? (six D w7 (.int .i64 1) (.int .i64 p) (.string nn) (.string ⟨#[]⟩) (.slice A al.length cap) (.bool false)) ⟨D, 1, none⟩ = some (.int .i64 p) := KF.cell 1
            have q2 : World.cell? (six D w7 (.int .i64 1) (.int .i64 p) (.string nn) (.string ⟨#[]⟩) (.slice A al.length cap) (.bool false)) ⟨D, 2, none⟩ = some (.string nn) := KF.cell 2
            have q3 : World.cell? (six D w7 (.int .i64 1) (.int .i64 p) (.string nn) (.string ⟨#[]⟩) (.slice A al.length cap) (.bool false)) ⟨D, 3, none⟩ = some (.string ⟨#[]⟩) := KF.cell 3
            have q4 : World.cell? (six D w7 (.int .i64 1) (.int .i64 p) (.string nn) (.string ⟨#[]⟩) (.slice A al.length cap) (.bool false)) ⟨D, 4, none⟩ = some (.slice A al.length cap) := KF.cell 4
            have q5 : World.cell? (six D w7 (.int .i64 1) (.int .i64 p) (.string nn) (.string ⟨#[]⟩) (.slice A al.length cap) (.bool false)) ⟨D, 5, none⟩ = some (.bool false) := KF.cell 5
            refine bodyPost_ret (v := .tuple #[.agg #[.int .i64 1, .int .i64 p, .string nn, .string ⟨#[]⟩, .slice A al.length cap, .bool false], .bool false]) (by simp [results, Tryz.results67, go_sem, q0, q1, q2, q3, q4, q5]) rfl ⟨⟨1, nn, ⟨#[]⟩, A, al.length, cap, false, false, l1, rfl, six_tx T7.out (by have := HTD.out; omega) _ _ _ _ _ _, ?_⟩, ?_⟩
            · exact TokIs.no hres.out
            · exact six_tn N7.out (by have := HBD.out; have := HB3.out; omega) _ _ _ _ _ _
          · have gnb : ((nb : Int) == 0) = false := by simp; omega
            have hgap : Hid (nextA al l = own al (attrB l1)) := by
              unfold Hid
              rw [nextA_gap (fun e => hnb0 (by rw [← HNB.out, e]; rfl)), HL1.out]
            have HAT := Lib.hid (rattr_any T (D + 1) s l1 (.slice A al.length cap) al w7 T7.out hs O7.out (by have := HTD.out; omega) Z7.out (by have := hlen1.out; omega))
            have k4 : w7.cell? ⟨b3, 4, none⟩ = some (.slice A al.length cap) := K7.out.cell 4
            go_wp2_with fail
            refine HAT.out.mono ?_
            rintro e w8 ⟨o8, n8⟩
            have K8 := Lib.hid (n8.bk K7.out (by have := HBD.out; omega) (by have := HTB.out; omega))
            have D8 := Lib.hid (n8.bk D7.out (Nat.lt_succ_self D) (by have := HTD.out; omega))
            have N8 : Hid (Tn T w.heap.size w w8) := N7.out.trans (n8.mono (by have := HB3.out; have := HBD.out; omega))
            have Z8 : Hid (D + 1 ≤ w8.heap.size) := Nat.le_trans Z7.out n8.size
            clear n8
            obtain ⟨x4, d4⟩ : ∃ v, w8.cell? ⟨b3, 4, none⟩ = some v := ⟨_, K8.out.cell 4⟩
            have f4 : w8.frozen? ⟨b3, 4, none⟩ = false := K8.out.free 4
            have hDb : D ≠ b3 := by have := HBD.out; omega
            have hTb : T ≠ b3 := by have := HTB.out; omega
            cases hoa : own al (attrB l1) with
            | none =>
              rw [hoa] at o8
              obtain ⟨A8, n8, cap8, r8, rfl, t8⟩ := o8
              have hres : Hid (openL r = none) := by
                unfold Hid
                rw [hends.out]
                refine ends_bad _ _ (by rw [hgap.out, hoa]) ?_ ?_
                · rw [HL1.out]; exact HN6.out
                · rw [HL1.out]; exact HN7.out
              have T8 := Lib.hid t8
              clear t8 hoa
              go_wp2_with fail
              go_roundw
              case rel => exact ⟨[], r8, _, false, rfl, hres.out, K8.out.s4 _, (fun h => by cases h), ⟨_, _, _, rfl⟩, D8.out.far (p := ⟨b3, 4, none⟩) hDb _, T8.out.far (p := ⟨b3, 4, none⟩) hTb _, N8.out.setHigh (p := ⟨b3, 4, none⟩) (Nat.le_of_eq HB3.out) _, Nat.le_trans Z8.out (by simp [World.setCell]), fun h => by cases h⟩
              case measure => rw [okM_false, okM_true]; omega
            | some q =>
              obtain ⟨a, r8⟩ := q
              rw [hoa] at o8
              obtain ⟨v8, rfl, ov8, t8⟩ := o8
              have hnx : nextA al l = some (a, r8) := by rw [hgap.out, hoa]
              have hres : Hid (openL r = ends (nameL r).1 (many nextA (al ++ [a]) r8)) := by unfold Hid; rw [hends.out]; exact ends_step _ hnx
              have hsh := Lib.hid (shrinksA al l a r8 hnx)
              have T8 := Lib.hid t8
              obtain ⟨A8, cap8, rfl⟩ := ov8.slice
              have O8 : Hid (OwnA (D + 1) w8 (.slice A8 (al.length + 1) cap8) (al ++ [a])) := by have h := ov8; rw [List.length_append, List.length_singleton] at h; exact h
              clear t8 hoa ov8 hnx
              go_wp2_with fail
              go_roundw
              case rel =>
                refine ⟨al ++ [a], r8, _, true, rfl, hres.out, K8.out.s4 _, fun _ => O8.out.stored K8.out (by decide) 4 _, ⟨_, _, _, rfl⟩, D8.out.far (p := ⟨b3, 4, none⟩) hDb _, T8.out.far (p := ⟨b3, 4, none⟩) hTb _, N8.out.setHigh (p := ⟨b3, 4, none⟩) (Nat.le_of_eq HB3.out) _, Nat.le_trans Z8.out (by simp [World.setCell]), fun _ => ?_⟩
                rw [List.length_append, List.length_singleton]
                have := hsh.out
                have := hlen1.out
                omega
              case measure =>
                obtain ⟨kp, hk1, hk2⟩ := HLP.out
                obtain ⟨j, _, _, hj, hj2⟩ := (T8.out.far (p := ⟨b3, 4, none⟩) hTb (.slice A8 (al ++ [a]).length cap8)).at
                rw [okM_true, okM_true, hk1]
                first
                  | rw [HPL.out j _ hj]
                  | (rw [List.length_append, List.length_singleton] at hj; rw [HPL.out j _ hj])
                have := hsh.out
                have := hlen1.out
                have := T8.out.len
                have := htx.out.len
                omega
end Go.Proofs.YtpomcamkkcggmaaGreatDoor
/-
  cardexref08: a token.
-/
namespace Go.Proofs.YtpomcamkkcggmaaGreatDoor
open Go.RowKit Tk

theorem Bk.drewW {w : World} {g : Nat} {t : TypeId} {cs : Array Value} (h : Bk w g t cs) : Bk w.drew g t cs := h
theorem TX.drew1 {ty : TypeId} {w : World} {T : Nat} {s : ByteArray} {r : List UInt8} (h : TX ty w T s r) : TX ty w.drew T s r := h.below ((Below.refl _ _).drew) (Nat.lt_succ_self _)
theorem text_is {r X x r' : List UInt8} (h : tokL r = textL r) (hX : r.takeWhile (fun c => c != 60) = X) (hne : X ≠ []) (hd : r.dropWhile (fun c => c != 60) = r') : (backO X = some x → tokL r = some ((3, [], x, [], false), r')) ∧ (backO X = none → tokL r = none) := by
  rw [h]
  unfold textL
  rw [hX, if_neg hne, hd]
  exact ⟨fun e => by rw [e]; rfl, fun e => by rw [e]; rfl⟩
set_option maxHeartbeats 8000000 in
set_option maxRecDepth 100000 in
theorem rtoken_any (T k : Nat) (s : ByteArray) (r : List UInt8) (w : World) (h : TX 84 w T s r) (hs : s.size ≤ 100000000) (hk : s.size - r.length = k) (hne : r ≠ []) :
    Calls Tryz.prog 47 #[.pointer (some ⟨T, 0, none⟩)] w fun e w' => TokOut 84 T s k (tokL r) e w' ∧ Tn T w.heap.size w w' := by
  have HNA := Lib.hid (fun (l : List UInt8) (W : World) (a : TX 84 W T s l) => rname_any T s l W a hs)
  have HBL := Lib.hid (fun (l : List UInt8) (W : World) (a : TX 84 W T s l) => rblanks_any T s l W a hs)
  have HIS := Lib.hid (fun (m : ByteArray) (l : List UInt8) (W : World) (a : TX 84 W T s l) (b : m.size ≤ 1000) => ris_any T s m l W a hs b)
  have HOP := Lib.hid (fun (p : Int) (l : List UInt8) (W : World) (a : TX 84 W T s l) => ropen_any T p s l W a hs)
  have HPL := Lib.hid (fun (j : Nat) (W : World) (h : Bk W T 84 #[.string s, .int .i64 j]) => place_of h)
  have HSZ := Lib.hid (Lib.size_eq s)
  have HBA := Lib.hid (fun (x : ByteArray) (W : World) (hx : x.size ≤ 100000000) => rback_any x W (by omega))
  have HRE := Lib.hid (fun (k j : Nat) (a : k ≤ j) (b : j ≤ s.data.toList.length) c d => run_end (p := fun c => c != 60) (l := s.data.toList) (k := k) (j := j) a b c d)
  obtain ⟨k', _, _, hb0, hk'⟩ := h.at
  obtain rfl : k' = k := hk'.symm.trans hk
  obtain ⟨zk, hzk⟩ : ∃ zk : Int, (k' : Int) = zk := ⟨_, rfl⟩
  have HZK := Lib.hid hzk
  obtain ⟨D, hD⟩ : ∃ D, w.heap.size = D := ⟨_, rfl⟩
  obtain ⟨W1, hW1⟩ : ∃ W1, w.alloc (.cells #[.int .i64 0, .int .i64 0, .string ⟨#[]⟩, .string ⟨#[]⟩, .slice none 0 0, .bool false] 45) = W1 := ⟨_, rfl⟩
  obtain ⟨b3, hb3⟩ : ∃ b3, W1.heap.size = b3 := ⟨_, rfl⟩
  obtain ⟨W2, hW2⟩ : ∃ W2, W1.alloc (.cells #[.int .i64 0, .int .i64 zk, .string ⟨#[]⟩, .string ⟨#[]⟩, .slice none 0 0, .bool false] 45) = W2 := ⟨_, rfl⟩
  have hD1 : b3 = D + 1 := by rw [← hb3, ← hW1, World.size_alloc, hD]
  have hs2 : W2.heap.size = b3 + 1 := by rw [← hW2, World.size_alloc, hb3]
  have hTw := h.lt
  have K2 : Hid (Bk W2 b3 45 #[.int .i64 0, .int .i64 zk, .string ⟨#[]⟩, .string ⟨#[]⟩, .slice none 0 0, .bool false]) := by rw [← hW2, ← hb3]; exact Bk.new _ _ _
  have D2 : Hid (Bk W2 D 45 tok0) := by rw [← hW2, ← hW1, ← hD]; exact (Bk.new _ _ _).alloc _
  have T2 : Hid (TX 84 W2 T s r) := by rw [← hW2, ← hW1]; exact (h.alloc _).alloc _
  have N2 : Hid (Tn T w.heap.size w W2) := by rw [← hW2, ← hW1]; exact ((Tn.refl _ _ _).alloc (Nat.le_refl _) _).alloc (by rw [World.size_alloc]; omega) _
  have c1 : w.cell? ⟨T, 1, none⟩ = some (.int .i64 zk) := by rw [← hzk]; exact hb0.cell 1
  have c1' : W1.cell? ⟨T, 1, none⟩ = some (.int .i64 zk) := by rw [← hW1, ← hzk]; exact (hb0.alloc _).cell 1
  have HD := Lib.hid hD
  have HDB : Hid (D < b3) := by unfold Hid; omega
  have HTD : Hid (T < D) := by unfold Hid; omega
  have HTB : Hid (T < b3) := by unfold Hid; omega
  have HZ2 : Hid (b3 + 1 ≤ W2.heap.size) := Nat.le_of_eq hs2.symm
  have HNE := Lib.hid hne
  have HB3 := Lib.hid hb3
  have HW2 := Lib.hid hW2
  clear h hTw hs2 hD1 hk hk' hb0 hzk hne hb3 hW2
  go_enter Tryz.func47, Tryz.ntmps47
  go_wp2_with fail
  rw [HW2.out, HB3.out]
  clear hW1 hD c1 c1'
  rcases over_two r with ⟨x, hr, hp, ho, ht⟩ | ⟨hp, ho, hcase⟩
  · have HT : Hid (tokL r = closeL x) := ht
    have HO2 := Lib.hid (HIS.out ⟨#[60, 47]⟩ r W2 T2.out (by show 2 ≤ 1000; omega))
    rw [show (⟨#[60, 47]⟩ : ByteArray).data.toList = [60, 47] from rfl, hp, ho] at HO2
    clear hr hp ho ht
    refine HO2.out.mono ?_
    rintro e w3 ⟨rfl, t3, n3⟩
    have T3 := Lib.hid t3
    have K3 := Lib.hid (n3.bk K2.out K2.out.lt (by have := HTB.out; omega))
    have D3 := Lib.hid (n3.bk D2.out D2.out.lt (by have := HTD.out; omega))
    have N3 : Hid (Tn T w.heap.size w w3) := N2.out.then n3 (by have := HZ2.out; have := HDB.out; have := HD.out; omega)
    have Z3 : Hid (b3 + 1 ≤ w3.heap.size) := Nat.le_trans HZ2.out n3.size
    clear t3 n3
    have HN3 := Lib.hid (HNA.out x w3 T3.out)
    obtain ⟨nn, hnn⟩ : ∃ nn, bts (nameL x).1 = nn := ⟨_, rfl⟩
    have hN := empty_bts (nameL x).1
    rw [hnn] at HN3 hN
    obtain ⟨N, hN1⟩ : ∃ N, (nameL x).1.isEmpty = N := ⟨_, rfl⟩
    rw [hN1] at hN
    have HN1 := Lib.hid hN1
    have HNN := Lib.hid hnn
    clear hnn hN1
    go_wp2_with fail
    refine HN3.out.mono ?_
    rintro e w4 ⟨rfl, ⟨r4, t4, hr4⟩, n4⟩
    have T4 := Lib.hid t4
    have K4 := Lib.hid (n4.bk K3.out K3.out.lt (by have := HTB.out; omega))
    have D4 := Lib.hid (n4.bk D3.out D3.out.lt (by have := HTD.out; omega))
    have N4 : Hid (Tn T w.heap.size w w4) := N3.out.then n4 (by have := Z3.out; have := HDB.out; have := HD.out; omega)
    have Z4 : Hid (b3 + 1 ≤ w4.heap.size) := Nat.le_trans Z3.out n4.size
    have R4 := Lib.hid hr4
    obtain ⟨x0, c0⟩ : ∃ v, w4.cell? ⟨b3, 0, none⟩ = some v := ⟨_, K4.out.cell 0⟩
    obtain ⟨x2, c2⟩ : ∃ v, w4.cell? ⟨b3, 2, none⟩ = some v := ⟨_, K4.out.cell 2⟩
    have f0 : w4.frozen? ⟨b3, 0, none⟩ = false := K4.out.free 0
    have f2 : w4.frozen? ⟨b3, 2, none⟩ = false := K4.out.free 2
    clear t4 n4 hr4
    go_upto_region 4 with fail
    obtain ⟨W5, hW5⟩ : ∃ W5, (w4.setCell ⟨b3, 0, none⟩ (.int .i64 2)).setCell ⟨b3, 2, none⟩ (.string nn) = W5 := ⟨_, rfl⟩
    have K5 : Hid (Bk W5 b3 45 #[.int .i64 2, .int .i64 zk, .string nn, .string ⟨#[]⟩, .slice none 0 0, .bool false]) := by rw [← hW5]; exact K4.out.s02 _ _
    have hDb : D ≠ b3 := by have := HDB.out; omega
    have hTb : T ≠ b3 := by have := HTB.out; omega
    have D5 : Hid (Bk W5 D 45 tok0) := by rw [← hW5]; exact (D4.out.far (p := ⟨b3, 0, none⟩) hDb _).far (p := ⟨b3, 2, none⟩) hDb _
    have T5 : Hid (TX 84 W5 T s r4) := by rw [← hW5]; exact (T4.out.far (p := ⟨b3, 0, none⟩) hTb _).far (p := ⟨b3, 2, none⟩) hTb _
    have hwb : w.heap.size ≤ b3 := by have := HDB.out; have := HD.out; omega
    have N5 : Hid (Tn T w.heap.size w W5) := by rw [← hW5]; exact (N4.out.setHigh (p := ⟨b3, 0, none⟩) hwb _).setHigh (p := ⟨b3, 2, none⟩) hwb _
    have Z5 : Hid (b3 + 1 ≤ W5.heap.size) := by rw [← hW5]; exact Nat.le_trans Z4.out (by simp [World.setCell])
    rw [hW5]
    clear hW5 c0 c2 f0 f2
    go_wp2_with fail
    refine (HBL.out r4 W5 T5.out).mono ?_
    rintro e w6 ⟨rfl, t6, n6⟩
    have T6 := Lib.hid t6
    have K6 := Lib.hid (n6.bk K5.out K5.out.lt (by have := HTB.out; omega))
    have D6 := Lib.hid (n6.bk D5.out D5.out.lt (by have := HTD.out; omega))
    have N6 : Hid (Tn T w.heap.size w w6) := N5.out.then n6 (by have := Z5.out; have := HDB.out; have := HD.out; omega)
    have Z6 : Hid (b3 + 1 ≤ w6.heap.size) := Nat.le_trans Z5.out n6.size
    clear t6 n6 hDb hTb hwb
    have c0 : w6.cell? ⟨b3, 0, none⟩ = some (.int .i64 2) := K6.out.cell 0
    have c1 : w6.cell? ⟨b3, 1, none⟩ = some (.int .i64 zk) := K6.out.cell 1
    have c2 : w6.cell? ⟨b3, 2, none⟩ = some (.string nn) := K6.out.cell 2
    have c3 : w6.cell? ⟨b3, 3, none⟩ = some (.string ⟨#[]⟩) := K6.out.cell 3
    have c4 : w6.cell? ⟨b3, 4, none⟩ = some (.slice none 0 0) := K6.out.cell 4
    have c5 : w6.cell? ⟨b3, 5, none⟩ = some (.bool false) := K6.out.cell 5
    obtain ⟨v0, d0⟩ : ∃ v, w6.cell? ⟨D, 0, none⟩ = some v := ⟨_, D6.out.cell 0⟩
    obtain ⟨v1, d1⟩ : ∃ v, w6.cell? ⟨D, 1, none⟩ = some v := ⟨_, D6.out.cell 1⟩
    obtain ⟨v2, d2⟩ : ∃ v, w6.cell? ⟨D, 2, none⟩ = some v := ⟨_, D6.out.cell 2⟩
    obtain ⟨v3, d3⟩ : ∃ v, w6.cell? ⟨D, 3, none⟩ = some v := ⟨_, D6.out.cell 3⟩
    obtain ⟨v4, d4⟩ : ∃ v, w6.cell? ⟨D, 4, none⟩ = some v := ⟨_, D6.out.cell 4⟩
    obtain ⟨v5, d5⟩ : ∃ v, w6.cell? ⟨D, 5, none⟩ = some v := ⟨_, D6.out.cell 5⟩
    have h0 : w6.frozen? ⟨D, 0, none⟩ = false := D6.out.free 0
    have h1 : w6.frozen? ⟨D, 1, none⟩ = false := D6.out.free 1
    have h2 : w6.frozen? ⟨D, 2, none⟩ = false := D6.out.free 2
    have h3 : w6.frozen? ⟨D, 3, none⟩ = false := D6.out.free 3
    have h4 : w6.frozen? ⟨D, 4, none⟩ = false := D6.out.free 4
    have h5 : w6.frozen? ⟨D, 5, none⟩ = false := D6.out.free 5
    go_wp2_with fail
    cases N with
    | true =>
      have hres : Hid (tokL r = none) := by unfold Hid; rw [HT.out]; exact close_no (List.isEmpty_iff.1 HN1.out)
      go_region
      all_goals
        go_wp2_with fail
        have KF := Bk.drewW (D6.out.six (.int .i64 2) (.int .i64 zk) (.string nn) (.string ⟨#[]⟩) (.slice none 0 0) (.bool false))
        have q0 : World.cell? (World.drew (six D w6 (.int .i64 2) (.int .i64 zk) (.string nn) (.string ⟨#[]⟩) (.slice none 0 0) (.bool false))) ⟨D, 0, none⟩ = some (.int .i64 2) := KF.cell 0
        have q1 : World.cell? (World.drew (six D w6 (.int .i64 2) (.int .i64 zk) (.string nn) (.string ⟨#[]⟩) (.slice none 0 0) (.bool false))) ⟨D, 1, none⟩ = some (.int .i64 zk) := KF.cell 1
        have q2 : World.cell? (World.drew (six D w6 (.int .i64 2) (.int .i64 zk) (.string nn) (.string ⟨#[]⟩) (.slice none 0 0) (.bool false))) ⟨D, 2, none⟩ = some (.string nn) := KF.cell 2
        have q3 : World.cell? (World.drew (six D w6 (.int .i64 2) (.int .i64 zk) (.string nn) (.string ⟨#[]⟩) (.slice none 0 0) (.bool false))) ⟨D, 3, none⟩ = some (.string ⟨#[]⟩) := KF.cell 3
        have q4 : World.cell? (World.drew (six D w6 (.int .i64 2) (.int .i64 zk) (.string nn) (.string ⟨#[]⟩) (.slice none 0 0) (.bool false))) ⟨D, 4, none⟩ = some (.slice none 0 0) := KF.cell 4
        have q5 : World.cell? (World.drew (six D w6 (.int .i64 2) (.int .i64 zk) (.string nn) (.string ⟨#[]⟩) (.slice none 0 0) (.bool false))) ⟨D, 5, none⟩ = some (.bool false) := KF.cell 5
        refine bodyPost_ret (v := .tuple #[.agg #[.int .i64 2, .int .i64 zk, .string nn, .string ⟨#[]⟩, .slice none 0 0, .bool false], .bool false]) (by simp [results, Tryz.results47, go_sem, q0, q1, q2, q3, q4, q5]) rfl ⟨⟨2, nn, ⟨#[]⟩, none, 0, 0, false, false, _, by rw [HZK.out], (six_tx T6.out (by have := HTD.out; omega) _ _ _ _ _ _).drew1, ?_⟩, ?_⟩
        · exact TokIs.no hres.out
        · exact (six_tn N6.out (by have := HD.out; omega) _ _ _ _ _ _).drew
    | false =>
      have hne : Hid ((nameL x).1 ≠ []) := fun e => by have := HN1.out; rw [e] at this; cases this
      obtain ⟨l1, hl1⟩ : ∃ l1, r4.dropWhile bl = l1 := ⟨_, rfl⟩
      rw [hl1] at T6
      have HL1 : Hid ((nameL x).2.dropWhile bl = l1) := by unfold Hid; rw [← R4.out hne.out]; exact hl1
      clear hl1
      have HI5 := Lib.hid (fun (W : World) (hW : Below w6.heap.size w6 W) => (HIS.out ⟨#[62]⟩ l1 W (T6.out.below hW T6.out.lt) (by show 1 ≤ 1000; omega)).mono (fun e w' (h : _ ∧ _ ∧ _) => (⟨h.1, h.2.1, (Tn.of hW).trans (h.2.2.mono hW.size)⟩ : _ ∧ _ ∧ Tn T w6.heap.size w6 w')))
      rw [show (⟨#[62]⟩ : ByteArray).data.toList = [62] from rfl] at HI5
      rcases one_prefix 62 l1 with ⟨hp, t, ht, ho⟩ | ⟨hp, ho, hnt⟩
      · rw [hp, ho] at HI5
        have hres : Hid (tokL r = some ((2, (nameL x).1, [], [], false), t)) := by unfold Hid; rw [HT.out]; exact close_yes hne.out (by rw [HL1.out]; exact ht)
        clear hp ho ht
        go_region_with ((go_at_call 46; refine (HI5.out _ ?_).mono ?_; exact ⟨rfl, rfl, rfl, Nat.le_refl _, fun _ _ => rfl⟩; rintro e w7 ⟨rfl, t7, n7⟩; have T7 := Lib.hid t7; have K7 := Lib.hid (n7.bk K6.out K6.out.lt (by have := HTB.out; omega)); have D7 := Lib.hid (n7.bk D6.out D6.out.lt (by have := HTD.out; omega)); have N7 : Hid (Tn T w.heap.size w w7) := N6.out.then n7 (by have := Z6.out; have := HDB.out; have := HD.out; omega); clear t7 n7; have e0 : w7.cell? ⟨b3, 0, none⟩ = some (.int .i64 2) := K7.out.cell 0; have e1 : w7.cell? ⟨b3, 1, none⟩ = some (.int .i64 zk) := K7.out.cell 1; have e2 : w7.cell? ⟨b3, 2, none⟩ = some (.string nn) := K7.out.cell 2; have e3 : w7.cell? ⟨b3, 3, none⟩ = some (.string ⟨#[]⟩) := K7.out.cell 3; have e4 : w7.cell? ⟨b3, 4, none⟩ = some (.slice none 0 0) := K7.out.cell 4; have e5 : w7.cell? ⟨b3, 5, none⟩ = some (.bool false) := K7.out.cell 5; have ⟨y0, g0⟩ : ∃ v, w7.cell? ⟨D, 0, none⟩ = some v := ⟨_, D7.out.cell 0⟩; have ⟨y1, g1⟩ : ∃ v, w7.cell? ⟨D, 1, none⟩ = some v := ⟨_, D7.out.cell 1⟩; have ⟨y2, g2⟩ : ∃ v, w7.cell? ⟨D, 2, none⟩ = some v := ⟨_, D7.out.cell 2⟩; have ⟨y3, g3⟩ : ∃ v, w7.cell? ⟨D, 3, none⟩ = some v := ⟨_, D7.out.cell 3⟩; have ⟨y4, g4⟩ : ∃ v, w7.cell? ⟨D, 4, none⟩ = some v := ⟨_, D7.out.cell 4⟩; have ⟨y5, g5⟩ : ∃ v, w7.cell? ⟨D, 5, none⟩ = some v := ⟨_, D7.out.cell 5⟩; have k0 : w7.frozen? ⟨D, 0, none⟩ = false := D7.out.free 0; have k1 : w7.frozen? ⟨D, 1, none⟩ = false := D7.out.free 1; have k2 : w7.frozen? ⟨D, 2, none⟩ = false := D7.out.free 2; have k3 : w7.frozen? ⟨D, 3, none⟩ = false := D7.out.free 3; have k4 : w7.frozen? ⟨D, 4, none⟩ = false := D7.out.free 4; have k5 : w7.frozen? ⟨D, 5, none⟩ = false := D7.out.free 5))
        all_goals
          go_wp2_with fail
          have KF := D7.out.six (.int .i64 2) (.int .i64 zk) (.string nn) (.string ⟨#[]⟩) (.slice none 0 0) (.bool false)
          have q0 : World.cell? (six D w7 (.int .i64 2) (.int .i64 zk) (.string nn) (.string ⟨#[]⟩) (.slice none 0 0) (.bool false)) ⟨D, 0, none⟩ = some (.int .i64 2) := KF.cell 0
          have q1 : World.cell? (six D w7 (.int .i64 2) (.int .i64 zk) (.string nn) (.string ⟨#[]⟩) (.slice none 0 0) (.bool false)) ⟨D, 1, none⟩ = some (.int .i64 zk) := KF.cell 1
          have q2 : World.cell? (six D w7 (.int .i64 2) (.int .i64 zk) (.string nn) (.string ⟨#[]⟩) (.slice none 0 0) (.bool false)) ⟨D, 2, none⟩ = some (.string nn) := KF.cell 2
          have q3 : World.cell? (six D w7 (.int .i64 2) (.int .i64 zk) (.string nn) (.string ⟨#[]⟩) (.slice none 0 0) (.bool false)) ⟨D, 3, none⟩ = some (.string ⟨#[]⟩) := KF.cell 3
          have q4 : World.cell? (six D w7 (.int .i64 2) (.int .i64 zk) (.string nn) (.string ⟨#[]⟩) (.slice none 0 0) (.bool false)) ⟨D, 4, none⟩ = some (.slice none 0 0) := KF.cell 4
          have q5 : World.cell? (six D w7 (.int .i64 2) (.int .i64 zk) (.string nn) (.string ⟨#[]⟩) (.slice none 0 0) (.bool false)) ⟨D, 5, none⟩ = some (.bool false) := KF.cell 5
          refine bodyPost_ret (v := .tuple #[.agg #[.int .i64 2, .int .i64 zk, .string nn, .string ⟨#[]⟩, .slice none 0 0, .bool false], .bool true]) (by simp [results, Tryz.results47, go_sem, q0, q1, q2, q3, q4, q5]) rfl ⟨⟨2, nn, ⟨#[]⟩, none, 0, 0, false, true, t, by rw [HZK.out], six_tx T7.out (by have := HTD.out; omega) _ _ _ _ _ _, ?_⟩, ?_⟩
          · exact TokIs.yes hres.out rfl HNN.out.symm rfl (RowA.nil _) rfl
          · exact six_tn N7.out (by have := HD.out; omega) _ _ _ _ _ _
      · rw [hp, ho] at HI5
        have hres : Hid (tokL r = none) := by unfold Hid; rw [HT.out]; exact close_not (by rw [HL1.out]; exact hnt)
        clear hp ho hnt
        go_region_with ((go_at_call 46; refine (HI5.out _ ?_).mono ?_; exact ⟨rfl, rfl, rfl, Nat.le_refl _, fun _ _ => rfl⟩; rintro e w7 ⟨rfl, t7, n7⟩; have T7 := Lib.hid t7; have K7 := Lib.hid (n7.bk K6.out K6.out.lt (by have := HTB.out; omega)); have D7 := Lib.hid (n7.bk D6.out D6.out.lt (by have := HTD.out; omega)); have N7 : Hid (Tn T w.heap.size w w7) := N6.out.then n7 (by have := Z6.out; have := HDB.out; have := HD.out; omega); clear t7 n7; have e0 : w7.cell? ⟨b3, 0, none⟩ = some (.int .i64 2) := K7.out.cell 0; have e1 : w7.cell? ⟨b3, 1, none⟩ = some (.int .i64 zk) := K7.out.cell 1; have e2 : w7.cell? ⟨b3, 2, none⟩ = some (.string nn) := K7.out.cell 2; have e3 : w7.cell? ⟨b3, 3, none⟩ = some (.string ⟨#[]⟩) := K7.out.cell 3; have e4 : w7.cell? ⟨b3, 4, none⟩ = some (.slice none 0 0) := K7.out.cell 4; have e5 : w7.cell? ⟨b3, 5, none⟩ = some (.bool false) := K7.out.cell 5; have ⟨y0, g0⟩ : ∃ v, w7.cell? ⟨D, 0, none⟩ = some v := ⟨_, D7.out.cell 0⟩; have ⟨y1, g1⟩ : ∃ v, w7.cell? ⟨D, 1, none⟩ = some v := ⟨_, D7.out.cell 1⟩; have ⟨y2, g2⟩ : ∃ v, w7.cell? ⟨D, 2, none⟩ = some v := ⟨_, D7.out.cell 2⟩; have ⟨y3, g3⟩ : ∃ v, w7.cell? ⟨D, 3, none⟩ = some v := ⟨_, D7.out.cell 3⟩; have ⟨y4, g4⟩ : ∃ v, w7.cell? ⟨D, 4, none⟩ = some v := ⟨_, D7.out.cell 4⟩; have ⟨y5, g5⟩ : ∃ v, w7.cell? ⟨D, 5, none⟩ = some v := ⟨_, D7.out.cell 5⟩; have k0 : w7.frozen? ⟨D, 0, none⟩ = false := D7.out.free 0; have k1 : w7.frozen? ⟨D, 1, none⟩ = false := D7.out.free 1; have k2 : w7.frozen? ⟨D, 2, none⟩ = false := D7.out.free 2; have k3 : w7.frozen? ⟨D, 3, none⟩ = false := D7.out.free 3; have k4 : w7.frozen? ⟨D, 4, none⟩ = false := D7.out.free 4; have k5 : w7.frozen? ⟨D, 5, none⟩ = false := D7.out.free 5))
        all_goals
          go_wp2_with fail
          have KF := D7.out.six (.int .i64 2) (.int .i64 zk) (.string nn) (.string ⟨#[]⟩) (.slice none 0 0) (.bool false)
          have q0 : World.cell? (six D w7 (.int .i64 2) (.int .i64 zk) (.string nn) (.string ⟨#[]⟩) (.slice none 0 0) (.bool false)) ⟨D, 0, none⟩ = some (.int .i64 2) := KF.cell 0
          have q1 : World.cell? (six D w7 (.int .i64 2) (.int .i64 zk) (.string nn) (.string ⟨#[]⟩) (.slice none 0 0) (.bool false)) ⟨D, 1, none⟩ = some (.int .i64 zk) := KF.cell 1
          have q2 : World.cell? (six D w7 (.int .i64 2) (.int .i64 zk) (.string nn) (.string ⟨#[]⟩) (.slice none 0 0) (.bool false)) ⟨D, 2, none⟩ = some (.string nn) := KF.cell 2
          have q3 : World.cell? (six D w7 (.int .i64 2) (.int .i64 zk) (.string nn) (.string ⟨#[]⟩) (.slice none 0 0) (.bool false)) ⟨D, 3, none⟩ = some (.string ⟨#[]⟩) := KF.cell 3
          have q4 : World.cell? (six D w7 (.int .i64 2) (.int .i64 zk) (.string nn) (.string ⟨#[]⟩) (.slice none 0 0) (.bool false)) ⟨D, 4, none⟩ = some (.slice none 0 0) := KF.cell 4
          have q5 : World.cell? (six D w7 (.int .i64 2) (.int .i64 zk) (.string nn) (.string ⟨#[]⟩) (.slice none 0 0) (.bool false)) ⟨D, 5, none⟩ = some (.bool false) := KF.cell 5
          refine bodyPost_ret (v := .tuple #[.agg #[.int .i64 2, .int .i64 zk, .string nn, .string ⟨#[]⟩, .slice none 0 0, .bool false], .bool false]) (by simp [results, Tryz.results47, go_sem, q0, q1, q2, q3, q4, q5]) rfl ⟨⟨2, nn, ⟨#[]⟩, none, 0, 0, false, false, l1, by rw [HZK.out], six_tx T7.out (by have := HTD.out; omega) _ _ _ _ _ _, ?_⟩, ?_⟩
          · exact TokIs.no hres.out
          · exact six_tn N7.out (by have := HD.out; omega) _ _ _ _ _ _
  · have HO2 := Lib.hid (HIS.out ⟨#[60, 47]⟩ r W2 T2.out (by show 2 ≤ 1000; omega))
    rw [show (⟨#[60, 47]⟩ : ByteArray).data.toList = [60, 47] from rfl, hp, ho] at HO2
    clear hp ho
    refine HO2.out.mono ?_
    rintro e w3 ⟨rfl, t3, n3⟩
    have T3 := Lib.hid t3
    have K3 := Lib.hid (n3.bk K2.out K2.out.lt (by have := HTB.out; omega))
    have D3 := Lib.hid (n3.bk D2.out D2.out.lt (by have := HTD.out; omega))
    have N3 : Hid (Tn T w.heap.size w w3) := N2.out.then n3 (by have := HZ2.out; have := HDB.out; have := HD.out; omega)
    have Z3 : Hid (b3 + 1 ≤ w3.heap.size) := Nat.le_trans HZ2.out n3.size
    clear t3 n3
    rcases hcase with ⟨x, hr, ht⟩ | ⟨hno, ht⟩
    · have HT : Hid (tokL r = openL x) := ht
      have HO3 := Lib.hid (HIS.out ⟨#[60]⟩ r w3 T3.out (by show 1 ≤ 1000; omega))
      have h1 : [60].isPrefixOf r = true ∧ over [60] r = x := by
        rw [hr]
        rcases one_prefix 60 (60 :: x) with ⟨hp, t, e, ho⟩ | ⟨_, _, hn⟩
        · injection e with _ e
          exact ⟨hp, by rw [ho, e]⟩
        · exact absurd rfl (hn x)
      rw [show (⟨#[60]⟩ : ByteArray).data.toList = [60] from rfl, h1.1, h1.2] at HO3
      clear hr ht h1
      go_wp2_with fail
      refine HO3.out.mono ?_
      rintro e w4 ⟨rfl, t4, n4⟩
      have T4 := Lib.hid t4
      have K4 := Lib.hid (n4.bk K3.out K3.out.lt (by have := HTB.out; omega))
      have D4 := Lib.hid (n4.bk D3.out D3.out.lt (by have := HTD.out; omega))
      have N4 : Hid (Tn T w.heap.size w w4) := N3.out.then n4 (by have := Z3.out; have := HDB.out; have := HD.out; omega)
      have Z4 : Hid (b3 + 1 ≤ w4.heap.size) := Nat.le_trans Z3.out n4.size
      clear t4 n4
      have c0 : w4.cell? ⟨b3, 0, none⟩ = some (.int .i64 0) := K4.out.cell 0
      have c1 : w4.cell? ⟨b3, 1, none⟩ = some (.int .i64 zk) := K4.out.cell 1
      have c2 : w4.cell? ⟨b3, 2, none⟩ = some (.string ⟨#[]⟩) := K4.out.cell 2
      have c3 : w4.cell? ⟨b3, 3, none⟩ = some (.string ⟨#[]⟩) := K4.out.cell 3
      have c4 : w4.cell? ⟨b3, 4, none⟩ = some (.slice none 0 0) := K4.out.cell 4
      have c5 : w4.cell? ⟨b3, 5, none⟩ = some (.bool false) := K4.out.cell 5
      have HOX := Lib.hid (HOP.out zk x w4 T4.out)
      go_wp2_with fail
      refine HOX.out.mono ?_
      rintro e w5 ⟨⟨kk, x5, y5, A5, n5, cap5, b5, ok5, r5, rfl, t5, i5⟩, n5'⟩
      have T5 := Lib.hid t5
      have I5 := Lib.hid i5
      have D5 := Lib.hid (n5'.bk D4.out D4.out.lt (by have := HTD.out; omega))
      have N5 : Hid (Tn T w.heap.size w w5) := N4.out.then n5' (by have := Z4.out; have := HDB.out; have := HD.out; omega)
      clear t5 i5 n5' c0 c1 c2 c3 c4 c5
      obtain ⟨v0, d0⟩ : ∃ v, w5.cell? ⟨D, 0, none⟩ = some v := ⟨_, D5.out.cell 0⟩
      obtain ⟨v1, d1⟩ : ∃ v, w5.cell? ⟨D, 1, none⟩ = some v := ⟨_, D5.out.cell 1⟩
      obtain ⟨v2, d2⟩ : ∃ v, w5.cell? ⟨D, 2, none⟩ = some v := ⟨_, D5.out.cell 2⟩
      obtain ⟨v3, d3⟩ : ∃ v, w5.cell? ⟨D, 3, none⟩ = some v := ⟨_, D5.out.cell 3⟩
      obtain ⟨v4, d4⟩ : ∃ v, w5.cell? ⟨D, 4, none⟩ = some v := ⟨_, D5.out.cell 4⟩
      obtain ⟨v5, d5⟩ : ∃ v, w5.cell? ⟨D, 5, none⟩ = some v := ⟨_, D5.out.cell 5⟩
      have h0 : w5.frozen? ⟨D, 0, none⟩ = false := D5.out.free 0
      have h1 : w5.frozen? ⟨D, 1, none⟩ = false := D5.out.free 1
      have h2 : w5.frozen? ⟨D, 2, none⟩ = false := D5.out.free 2
      have h3 : w5.frozen? ⟨D, 3, none⟩ = false := D5.out.free 3
      have h4 : w5.frozen? ⟨D, 4, none⟩ = false := D5.out.free 4
      have h5 : w5.frozen? ⟨D, 5, none⟩ = false := D5.out.free 5
      go_wp2_with fail
      have KF := D5.out.six (.int .i64 kk) (.int .i64 zk) (.string x5) (.string y5) (.slice A5 n5 cap5) (.bool b5)
      have q0 : World.cell? (six D w5 (.int .i64 kk) (.int .i64 zk) (.string x5) (.string y5) (.slice A5 n5 cap5) (.bool b5)) ⟨D, 0, none⟩ = some (.int .i64 kk) := KF.cell 0
      have q1 : World.cell? (six D w5 (.int .i64 kk) (.int .i64 zk) (.string x5) (.string y5) (.slice A5 n5 cap5) (.bool b5)) ⟨D, 1, none⟩ = some (.int .i64 zk) := KF.cell 1
      have q2 : World.cell? (six D w5 (.int .i64 kk) (.int .i64 zk) (.string x5) (.string y5) (.slice A5 n5 cap5) (.bool b5)) ⟨D, 2, none⟩ = some (.string x5) := KF.cell 2
      have q3 : World.cell? (six D w5 (.int .i64 kk) (.int .i64 zk) (.string x5) (.string y5) (.slice A5 n5 cap5) (.bool b5)) ⟨D, 3, none⟩ = some (.string y5) := KF.cell 3
      have q4 : World.cell? (six D w5 (.int .i64 kk) (.int .i64 zk) (.string x5) (.string y5) (.slice A5 n5 cap5) (.bool b5)) ⟨D, 4, none⟩ = some (.slice A5 n5 cap5) := KF.cell 4
      have q5 : World.cell? (six D w5 (.int .i64 kk) (.int .i64 zk) (.string x5) (.string y5) (.slice A5 n5 cap5) (.bool b5)) ⟨D, 5, none⟩ = some (.bool b5) := KF.cell 5
      refine bodyPost_ret (v := .tuple #[.agg #[.int .i64 kk, .int .i64 zk, .string x5, .string y5, .slice A5 n5 cap5, .bool b5], .bool ok5]) (by simp [results, Tryz.results47, go_sem, q0, q1, q2, q3, q4, q5]) rfl ⟨⟨kk, x5, y5, A5, n5, cap5, b5, ok5, r5, by rw [HZK.out], six_tx T5.out (by have := HTD.out; omega) _ _ _ _ _ _, ?_⟩, ?_⟩
      · rw [HT.out]; exact I5.out.keep (six_keepA D5.out (by decide) _ _ _ _ _ _)
      · exact six_tn N5.out (by have := HD.out; omega) _ _ _ _ _ _
    · have HT : Hid (tokL r = textL r) := ht
      have HO3 := Lib.hid (HIS.out ⟨#[60]⟩ r w3 T3.out (by show 1 ≤ 1000; omega))
      have h1 : [60].isPrefixOf r = false ∧ over [60] r = r := by
        rcases one_prefix 60 r with ⟨_, t, e, _⟩ | ⟨hp, ho, _⟩
        · exact absurd e (hno t)
        · exact ⟨hp, ho⟩
      rw [show (⟨#[60]⟩ : ByteArray).data.toList = [60] from rfl, h1.1, h1.2] at HO3
      have HXN : Hid (r.takeWhile (fun c => c != 60) ≠ []) := by
        have hne := HNE.out
        unfold Hid
        cases r with
        | nil => exact absurd rfl hne
        | cons c t =>
          rw [List.takeWhile_cons]
          have : (c != 60) = true := by
            rw [bne_iff_ne]
            intro e
            exact hno t (by rw [e])
          rw [this]
          simp
      clear ht h1 hno
      go_wp2_with fail
      refine HO3.out.mono ?_
      rintro e w4 ⟨rfl, t4, n4⟩
      have T4 := Lib.hid t4
      have K4 := Lib.hid (n4.bk K3.out K3.out.lt (by have := HTB.out; omega))
      have D4 := Lib.hid (n4.bk D3.out D3.out.lt (by have := HTD.out; omega))
      have N4 : Hid (Tn T w.heap.size w w4) := N3.out.then n4 (by have := Z3.out; have := HDB.out; have := HD.out; omega)
      have Z4 : Hid (b3 + 1 ≤ w4.heap.size) := Nat.le_trans Z3.out n4.size
      clear t4 n4
      obtain ⟨k4, hk4, hr4, hbk4, _⟩ := T4.out.at
      have c0 : w4.cell? ⟨T, 0, none⟩ = some (.string s) := hbk4.cell 0
      have c1 : w4.cell? ⟨T, 1, none⟩ = some (.int .i64 k4) := hbk4.cell 1
      have HBK4 := Lib.hid hbk4
      have HR4 := Lib.hid hr4
      clear hr4 hbk4
      go_wp2_with fail
      clear c0 c1
      go_loopw [] (fun wr => ∃ j : Nat, k4 ≤ j ∧ j ≤ s.size ∧ Hid (∀ i, k4 ≤ i → i < j → (s.data.toList.getD i 0 != 60) = true) ∧ Hid (Bk wr T 84 #[.string s, .int .i64 j]) ∧ Hid (Tn T w4.heap.size w4 wr)) (fun wr => s.size - placeOf T wr)
      case atStart => exact ⟨k4, Nat.le_refl _, hk4, Lib.hid (fun i h1 h2 => by omega), HBK4.out, Tn.refl _ _ _⟩
      case round =>
        obtain ⟨j, hkj, hjs, hall, hbk, htn⟩ := hrel
        have hpl := Lib.hid (HPL.out j wr hbk.out)
        have d0 : wr.cell? ⟨T, 0, none⟩ = some (.string s) := hbk.out.cell 0
        have d1 : wr.cell? ⟨T, 1, none⟩ = some (.int .i64 j) := hbk.out.cell 1
        have g1 : wr.frozen? ⟨T, 1, none⟩ = false := hbk.out.free 1
        have HEND : Hid ((j < s.size → (s.data.toList.getD j 0 != 60) = false) → ∃ X BX, X ≠ [] ∧ r.takeWhile (fun c => c != 60) = X ∧ r.dropWhile (fun c => c != 60) = s.data.toList.drop j ∧ bts X = BX ∧ s.extract k4 j = BX ∧ X.length ≤ s.size) := fun hh => by
          have hE := HRE.out k4 j hkj (by have := HSZ.out; omega) hall.out (fun h => hh (by have := HSZ.out; omega))
          rw [← HR4.out] at hE
          refine ⟨_, _, HXN.out, rfl, hE.2, rfl, ?_, ?_⟩
          · refine cut_bytes ?_
            rw [hE.1, HR4.out]
          · have h1 := while_len (fun c' => c' != 60) r
            have h2 := T4.out.len
            omega
        by_cases hlt : j < s.size
        · have gB : decide ((j : Int) < (s.size : Int)) = true := decide_eq_true (by omega)
          have hgd : Hid (s.data.toList.getD j 0 = s[j]'hlt) := by
            unfold Hid
            rw [List.getD_eq_getElem?_getD, Lib.data_getElem? s j hlt]
            rfl
          obtain ⟨d, hd⟩ : ∃ d : UInt8, s[j]'hlt = d := ⟨_, rfl⟩
          have HC := Lib.hid (hgd.out.trans hd)
          obtain ⟨y, hy⟩ : ∃ y : Int, (d.toNat : Int) = y := ⟨_, rfl⟩
          have hdy : ((s[j]'hlt).toNat : Int) = y := by rw [hd]; exact hy
          have hyz : (y != 60) = (d != 60) := by rw [ne_int d 60, hy]; rfl
          obtain ⟨pb, hpb⟩ : ∃ pb, (d != 60) = pb := ⟨_, rfl⟩
          rw [hpb] at hyz
          have HPB := Lib.hid hpb
          clear hgd hd hy hpb
          cases pb with
          | true =>
            have hall2 : Hid (∀ i, k4 ≤ i → i < j + 1 → (s.data.toList.getD i 0 != 60) = true) := fun i h1 h2 => by
              rcases Nat.lt_or_ge i j with h | h
              · exact hall.out i h1 h
              · obtain rfl : i = j := by omega
                rw [HC.out]; exact HPB.out
            go_wp2_with fail
            go_quiet (fail)
            go_wp2_with fail
            go_roundw
            case rel => exact ⟨j + 1, by omega, by omega, hall2, (hbk.out.drewN _).place _, (htn.out.drewN _).set _ _⟩
            case measure => rw [place_of hbk.out, place_set (hbk.out.drewN _)]; omega
          | false =>
            have HE2 := Lib.hid (HEND.out (fun _ => by rw [HC.out]; exact HPB.out))
            obtain ⟨X, BX, hXne, hX, hdrop, hBX, hcut, hXs⟩ := HE2.out
            have HTI : Hid (∀ x, (backO X = some x → tokL r = some ((3, [], x, [], false), s.data.toList.drop j)) ∧ (backO X = none → tokL r = none)) := fun x => text_is HT.out hX hXne hdrop
            have HBX := Lib.hid (fun (W : World) => HBA.out (bts X) W (by rw [Lib.size_eq]; exact Nat.le_trans hXs hs))
            rw [show (bts X).data.toList = X from rfl, hBX] at HBX
            clear hXne hX hdrop hBX hXs
            go_wp2_with fail
            go_quiet (fail)
            go_wp2_with fail
            have HBX2 : Hid (∀ W, Below wr.heap.size wr W → Calls Tryz.prog 68 #[.string BX] W fun e w' => e = .returned (backV X) ∧ Below wr.heap.size wr w') := fun W hW => (HBX.out W).mono (fun e w' h => ⟨h.1, hW.trans (h.2.mono hW.size)⟩)
            have KR := Lib.hid (htn.out.bk K4.out K4.out.lt (by have := HTB.out; omega))
            have DR := Lib.hid (htn.out.bk D4.out D4.out.lt (by have := HTD.out; omega))
            have NR : Hid (Tn T w.heap.size w wr) := N4.out.then htn.out (by have := Z4.out; have := HDB.out; have := HD.out; omega)
            have ZR : Hid (b3 + 1 ≤ wr.heap.size) := Nat.le_trans Z4.out htn.out.size
            rcases backV_cases X with ⟨x, hx1, hx2⟩ | ⟨m, hm, hx1, hx2⟩
            · have HR : Hid (tokL r = some ((3, [], x, [], false), s.data.toList.drop j)) := (HTI.out x).1 hx1
              obtain ⟨yx, hyx⟩ : ∃ yx, bts x = yx := ⟨_, rfl⟩
              rw [hyx] at hx2
              have HYX := Lib.hid hyx
              rw [hx2] at HBX2
              clear hx1 hx2 hyx
              go_region_with ((go_at_call 68; refine (HBX2.out _ ?_).mono ?_; exact ⟨rfl, rfl, rfl, Nat.le_refl _, fun _ _ => rfl⟩; rintro e w6 ⟨rfl, b6⟩; have T6 : Hid (TX 84 w6 T s (s.data.toList.drop j)) := ⟨j, hjs, rfl, hbk.out.below b6 hbk.out.lt⟩; have K6 := Lib.hid (KR.out.below b6 KR.out.lt); have D6 := Lib.hid (DR.out.below b6 DR.out.lt); have N6 : Hid (Tn T w.heap.size w w6) := NR.out.trans (.of (b6.mono (by have := ZR.out; have := HDB.out; have := HD.out; omega))); clear b6))
              all_goals
                obtain ⟨u0, c0⟩ : ∃ v, w6.cell? ⟨b3, 0, none⟩ = some v := ⟨_, K6.out.cell 0⟩
                obtain ⟨u3, c3⟩ : ∃ v, w6.cell? ⟨b3, 3, none⟩ = some v := ⟨_, K6.out.cell 3⟩
                have f0 : w6.frozen? ⟨b3, 0, none⟩ = false := K6.out.free 0
                have f3 : w6.frozen? ⟨b3, 3, none⟩ = false := K6.out.free 3
                go_upto_region 13 with fail
                obtain ⟨W7, hW7⟩ : ∃ W7, (w6.setCell ⟨b3, 0, none⟩ (.int .i64 3)).setCell ⟨b3, 3, none⟩ (.string yx) = W7 := ⟨_, rfl⟩
                have hDb : D ≠ b3 := by have := HDB.out; omega
                have hTb : T ≠ b3 := by have := HTB.out; omega
                have hwb : w.heap.size ≤ b3 := by have := HDB.out; have := HD.out; omega
                have K7 : Hid (Bk W7 b3 45 #[.int .i64 3, .int .i64 zk, .string ⟨#[]⟩, .string yx, .slice none 0 0, .bool false]) := by rw [← hW7]; exact K6.out.s03 _ _
                have D7 : Hid (Bk W7 D 45 tok0) := by rw [← hW7]; exact (D6.out.far (p := ⟨b3, 0, none⟩) hDb _).far (p := ⟨b3, 3, none⟩) hDb _
                have T7 : Hid (TX 84 W7 T s (s.data.toList.drop j)) := by rw [← hW7]; exact (T6.out.far (p := ⟨b3, 0, none⟩) hTb _).far (p := ⟨b3, 3, none⟩) hTb _
                have N7 : Hid (Tn T w.heap.size w W7) := by rw [← hW7]; exact (N6.out.setHigh (p := ⟨b3, 0, none⟩) hwb _).setHigh (p := ⟨b3, 3, none⟩) hwb _
                rw [hW7]
                clear hW7 c0 c3 f0 f3 hDb hTb hwb
                have c0 : W7.cell? ⟨b3, 0, none⟩ = some (.int .i64 3) := K7.out.cell 0
                have c1 : W7.cell? ⟨b3, 1, none⟩ = some (.int .i64 zk) := K7.out.cell 1
                have c2 : W7.cell? ⟨b3, 2, none⟩ = some (.string ⟨#[]⟩) := K7.out.cell 2
                have c3 : W7.cell? ⟨b3, 3, none⟩ = some (.string yx) := K7.out.cell 3
                have c4 : W7.cell? ⟨b3, 4, none⟩ = some (.slice none 0 0) := K7.out.cell 4
                have c5 : W7.cell? ⟨b3, 5, none⟩ = some (.bool false) := K7.out.cell 5
                obtain ⟨v0, d0⟩ : ∃ v, W7.cell? ⟨D, 0, none⟩ = some v := ⟨_, D7.out.cell 0⟩
                obtain ⟨v1, d1⟩ : ∃ v, W7.cell? ⟨D, 1, none⟩ = some v := ⟨_, D7.out.cell 1⟩
                obtain ⟨v2, d2⟩ : ∃ v, W7.cell? ⟨D, 2, none⟩ = some v := ⟨_, D7.out.cell 2⟩
                obtain ⟨v3, d3⟩ : ∃ v, W7.cell? ⟨D, 3, none⟩ = some v := ⟨_, D7.out.cell 3⟩
                obtain ⟨v4, d4⟩ : ∃ v, W7.cell? ⟨D, 4, none⟩ = some v := ⟨_, D7.out.cell 4⟩
                obtain ⟨v5, d5⟩ : ∃ v, W7.cell? ⟨D, 5, none⟩ = some v := ⟨_, D7.out.cell 5⟩
                have h0 : W7.frozen? ⟨D, 0, none⟩ = false := D7.out.free 0
                have h1 : W7.frozen? ⟨D, 1, none⟩ = false := D7.out.free 1
                have h2 : W7.frozen? ⟨D, 2, none⟩ = false := D7.out.free 2
                have h3 : W7.frozen? ⟨D, 3, none⟩ = false := D7.out.free 3
                have h4 : W7.frozen? ⟨D, 4, none⟩ = false := D7.out.free 4
                have h5 : W7.frozen? ⟨D, 5, none⟩ = false := D7.out.free 5
                go_wp2_with fail
                have KF := D7.out.six (.int .i64 3) (.int .i64 zk) (.string ⟨#[]⟩) (.string yx) (.slice none 0 0) (.bool false)
                have q0 : World.cell? (six D W7 (.int .i64 3) (.int .i64 zk) (.string ⟨#[]⟩) (.string yx) (.slice none 0 0) (.bool false)) ⟨D, 0, none⟩ = some (.int .i64 3) := KF.cell 0
                have q1 : World.cell? (six D W7 (.int .i64 3) (.int .i64 zk) (.string ⟨#[]⟩) (.string yx) (.slice none 0 0) (.bool false)) ⟨D, 1, none⟩ = some (.int .i64 zk) := KF.cell 1
                have q2 : World.cell? (six D W7 (.int .i64 3) (.int .i64 zk) (.string ⟨#[]⟩) (.string yx) (.slice none 0 0) (.bool false)) ⟨D, 2, none⟩ = some (.string ⟨#[]⟩) := KF.cell 2
                have q3 : World.cell? (six D W7 (.int .i64 3) (.int .i64 zk) (.string ⟨#[]⟩) (.string yx) (.slice none 0 0) (.bool false)) ⟨D, 3, none⟩ = some (.string yx) := KF.cell 3
                have q4 : World.cell? (six D W7 (.int .i64 3) (.int .i64 zk) (.string ⟨#[]⟩) (.string yx) (.slice none 0 0) (.bool false)) ⟨D, 4, none⟩ = some (.slice none 0 0) := KF.cell 4
                have q5 : World.cell? (six D W7 (.int .i64 3) (.int .i64 zk) (.string ⟨#[]⟩) (.string yx) (.slice none 0 0) (.bool false)) ⟨D, 5, none⟩ = some (.bool false) := KF.cell 5
                refine bodyPost_ret (v := .tuple #[.agg #[.int .i64 3, .int .i64 zk, .string ⟨#[]⟩, .string yx, .slice none 0 0, .bool false], .bool true]) (by simp [results, Tryz.results47, go_sem, q0, q1, q2, q3, q4, q5]) rfl ⟨⟨3, ⟨#[]⟩, yx, none, 0, 0, false, true, _, by rw [HZK.out], six_tx T7.out (by have := HTD.out; omega) _ _ _ _ _ _, ?_⟩, ?_⟩
                · exact TokIs.yes HR.out rfl rfl HYX.out.symm (RowA.nil _) rfl
                · exact six_tn N7.out (by have := HD.out; omega) _ _ _ _ _ _
            · have HR : Hid (tokL r = none) := (HTI.out []).2 hx1
              have hm2 : (m == 0) = false := by simpa using hm
              rw [hx2] at HBX2
              clear hx1 hx2 hm
              go_region_with ((go_at_call 68; refine (HBX2.out _ ?_).mono ?_; exact ⟨rfl, rfl, rfl, Nat.le_refl _, fun _ _ => rfl⟩; rintro e w6 ⟨rfl, b6⟩; have T6 : Hid (TX 84 w6 T s (s.data.toList.drop j)) := ⟨j, hjs, rfl, hbk.out.below b6 hbk.out.lt⟩; have K6 := Lib.hid (KR.out.below b6 KR.out.lt); have D6 := Lib.hid (DR.out.below b6 DR.out.lt); have N6 : Hid (Tn T w.heap.size w w6) := NR.out.trans (.of (b6.mono (by have := ZR.out; have := HDB.out; have := HD.out; omega))); clear b6))
              all_goals
                obtain ⟨u0, c0⟩ : ∃ v, w6.cell? ⟨b3, 0, none⟩ = some v := ⟨_, K6.out.cell 0⟩
                obtain ⟨u3, c3⟩ : ∃ v, w6.cell? ⟨b3, 3, none⟩ = some v := ⟨_, K6.out.cell 3⟩
                have f0 : w6.frozen? ⟨b3, 0, none⟩ = false := K6.out.free 0
                have f3 : w6.frozen? ⟨b3, 3, none⟩ = false := K6.out.free 3
                go_upto_region 13 with fail
                obtain ⟨W7, hW7⟩ : ∃ W7, (w6.setCell ⟨b3, 0, none⟩ (.int .i64 3)).setCell ⟨b3, 3, none⟩ (.string ⟨#[]⟩) = W7 := ⟨_, rfl⟩
                have hDb : D ≠ b3 := by have := HDB.out; omega
                have hTb : T ≠ b3 := by have := HTB.out; omega
                have hwb : w.heap.size ≤ b3 := by have := HDB.out; have := HD.out; omega
                have K7 : Hid (Bk W7 b3 45 #[.int .i64 3, .int .i64 zk, .string ⟨#[]⟩, .string ⟨#[]⟩, .slice none 0 0, .bool false]) := by rw [← hW7]; exact K6.out.s03 _ _
                have D7 : Hid (Bk W7 D 45 tok0) := by rw [← hW7]; exact (D6.out.far (p := ⟨b3, 0, none⟩) hDb _).far (p := ⟨b3, 3, none⟩) hDb _
                have T7 : Hid (TX 84 W7 T s (s.data.toList.drop j)) := by rw [← hW7]; exact (T6.out.far (p := ⟨b3, 0, none⟩) hTb _).far (p := ⟨b3, 3, none⟩) hTb _
                have N7 : Hid (Tn T w.heap.size w W7) := by rw [← hW7]; exact (N6.out.setHigh (p := ⟨b3, 0, none⟩) hwb _).setHigh (p := ⟨b3, 3, none⟩) hwb _
                rw [hW7]
                clear hW7 c0 c3 f0 f3 hDb hTb hwb
                have c0 : W7.cell? ⟨b3, 0, none⟩ = some (.int .i64 3) := K7.out.cell 0
                have c1 : W7.cell? ⟨b3, 1, none⟩ = some (.int .i64 zk) := K7.out.cell 1
                have c2 : W7.cell? ⟨b3, 2, none⟩ = some (.string ⟨#[]⟩) := K7.out.cell 2
                have c3 : W7.cell? ⟨b3, 3, none⟩ = some (.string ⟨#[]⟩) := K7.out.cell 3
                have c4 : W7.cell? ⟨b3, 4, none⟩ = some (.slice none 0 0) := K7.out.cell 4
                have c5 : W7.cell? ⟨b3, 5, none⟩ = some (.bool false) := K7.out.cell 5
                obtain ⟨v0, d0⟩ : ∃ v, W7.cell? ⟨D, 0, none⟩ = some v := ⟨_, D7.out.cell 0⟩
                obtain ⟨v1, d1⟩ : ∃ v, W7.cell? ⟨D, 1, none⟩ = some v := ⟨_, D7.out.cell 1⟩
                obtain ⟨v2, d2⟩ : ∃ v, W7.cell? ⟨D, 2, none⟩ = some v := ⟨_, D7.out.cell 2⟩
                obtain ⟨v3, d3⟩ : ∃ v, W7.cell? ⟨D, 3, none⟩ = some v := ⟨_, D7.out.cell 3⟩
                obtain ⟨v4, d4⟩ : ∃ v, W7.cell? ⟨D, 4, none⟩ = some v := ⟨_, D7.out.cell 4⟩
                obtain ⟨v5, d5⟩ : ∃ v, W7.cell? ⟨D, 5, none⟩ = some v := ⟨_, D7.out.cell 5⟩
                have h0 : W7.frozen? ⟨D, 0, none⟩ = false := D7.out.free 0
                have h1 : W7.frozen? ⟨D, 1, none⟩ = false := D7.out.free 1
                have h2 : W7.frozen? ⟨D, 2, none⟩ = false := D7.out.free 2
                have h3 : W7.frozen? ⟨D, 3, none⟩ = false := D7.out.free 3
                have h4 : W7.frozen? ⟨D, 4, none⟩ = false := D7.out.free 4
                have h5 : W7.frozen? ⟨D, 5, none⟩ = false := D7.out.free 5
                go_wp2_with fail
                have KF := D7.out.six (.int .i64 3) (.int .i64 zk) (.string ⟨#[]⟩) (.string ⟨#[]⟩) (.slice none 0 0) (.bool false)
                have q0 : World.cell? (six D W7 (.int .i64 3) (.int .i64 zk) (.string ⟨#[]⟩) (.string ⟨#[]⟩) (.slice none 0 0) (.bool false)) ⟨D, 0, none⟩ = some (.int .i64 3) := KF.cell 0
                have q1 : World.cell? (six D W7 (.int .i64 3) (.int .i64 zk) (.string ⟨#[]⟩) (.string ⟨#[]⟩) (.slice none 0 0) (.bool false)) ⟨D, 1, none⟩ = some (.int .i64 zk) := KF.cell 1
                have q2 : World.cell? (six D W7 (.int .i64 3) (.int .i64 zk) (.string ⟨#[]⟩) (.string ⟨#[]⟩) (.slice none 0 0) (.bool false)) ⟨D, 2, none⟩ = some (.string ⟨#[]⟩) := KF.cell 2
                have q3 : World.cell? (six D W7 (.int .i64 3) (.int .i64 zk) (.string ⟨#[]⟩) (.string ⟨#[]⟩) (.slice none 0 0) (.bool false)) ⟨D, 3, none⟩ = some (.string ⟨#[]⟩) := KF.cell 3
                have q4 : World.cell? (six D W7 (.int .i64 3) (.int .i64 zk) (.string ⟨#[]⟩) (.string ⟨#[]⟩) (.slice none 0 0) (.bool false)) ⟨D, 4, none⟩ = some (.slice none 0 0) := KF.cell 4
                have q5 : World.cell? (six D W7 (.int .i64 3) (.int .i64 zk) (.string ⟨#[]⟩) (.string ⟨#[]⟩) (.slice none 0 0) (.bool false)) ⟨D, 5, none⟩ = some (.bool false) := KF.cell 5
                refine bodyPost_ret (v := .tuple #[.agg #[.int .i64 3, .int .i64 zk, .string ⟨#[]⟩, .string ⟨#[]⟩, .slice none 0 0, .bool false], .bool false]) (by simp [results, Tryz.results47, go_sem, q0, q1, q2, q3, q4, q5]) rfl ⟨⟨3, ⟨#[]⟩, ⟨#[]⟩, none, 0, 0, false, false, _, by rw [HZK.out], six_tx T7.out (by have := HTD.out; omega) _ _ _ _ _ _, ?_⟩, ?_⟩
                · exact TokIs.no HR.out
                · exact six_tn N7.out (by have := HD.out; omega) _ _ _ _ _ _
        · have gB : decide ((j : Int) < (s.size : Int)) = false := decide_eq_false (by omega)
          have HE2 := Lib.hid (HEND.out (fun h => absurd h hlt))
          obtain ⟨X, BX, hXne, hX, hdrop, hBX, hcut, hXs⟩ := HE2.out
          have HTI : Hid (∀ x, (backO X = some x → tokL r = some ((3, [], x, [], false), s.data.toList.drop j)) ∧ (backO X = none → tokL r = none)) := fun x => text_is HT.out hX hXne hdrop
          have HBX := Lib.hid (fun (W : World) => HBA.out (bts X) W (by rw [Lib.size_eq]; exact Nat.le_trans hXs hs))
          rw [show (bts X).data.toList = X from rfl, hBX] at HBX
          clear hXne hX hdrop hBX hXs
          go_wp2_with fail
          go_quiet (fail)
          go_wp2_with fail
          have HBX2 : Hid (∀ W, Below wr.heap.size wr W → Calls Tryz.prog 68 #[.string BX] W fun e w' => e = .returned (backV X) ∧ Below wr.heap.size wr w') := fun W hW => (HBX.out W).mono (fun e w' h => ⟨h.1, hW.trans (h.2.mono hW.size)⟩)
          have KR := Lib.hid (htn.out.bk K4.out K4.out.lt (by have := HTB.out; omega))
          have DR := Lib.hid (htn.out.bk D4.out D4.out.lt (by have := HTD.out; omega))
          have NR : Hid (Tn T w.heap.size w wr) := N4.out.then htn.out (by have := Z4.out; have := HDB.out; have := HD.out; omega)
          have ZR : Hid (b3 + 1 ≤ wr.heap.size) := Nat.le_trans Z4.out htn.out.size
          rcases backV_cases X with ⟨x, hx1, hx2⟩ | ⟨m, hm, hx1, hx2⟩
          · have HR : Hid (tokL r = some ((3, [], x, [], false), s.data.toList.drop j)) := (HTI.out x).1 hx1
            obtain ⟨yx, hyx⟩ : ∃ yx, bts x = yx := ⟨_, rfl⟩
            rw [hyx] at hx2
            have HYX := Lib.hid hyx
            rw [hx2] at HBX2
            clear hx1 hx2 hyx
            go_region_with ((go_at_call 68; refine (HBX2.out _ ?_).mono ?_; exact ⟨rfl, rfl, rfl, Nat.le_refl _, fun _ _ => rfl⟩; rintro e w6 ⟨rfl, b6⟩; have T6 : Hid (TX 84 w6 T s (s.data.toList.drop j)) := ⟨j, hjs, rfl, hbk.out.below b6 hbk.out.lt⟩; have K6 := Lib.hid (KR.out.below b6 KR.out.lt); have D6 := Lib.hid (DR.out.below b6 DR.out.lt); have N6 : Hid (Tn T w.heap.size w w6) := NR.out.trans (.of (b6.mono (by have := ZR.out; have := HDB.out; have := HD.out; omega))); clear b6))
            all_goals
              obtain ⟨u0, c0⟩ : ∃ v, w6.cell? ⟨b3, 0, none⟩ = some v := ⟨_, K6.out.cell 0⟩
              obtain ⟨u3, c3⟩ : ∃ v, w6.cell? ⟨b3, 3, none⟩ = some v := ⟨_, K6.out.cell 3⟩
              have f0 : w6.frozen? ⟨b3, 0, none⟩ = false := K6.out.free 0
              have f3 : w6.frozen? ⟨b3, 3, none⟩ = false := K6.out.free 3
              go_upto_region 13 with fail
              obtain ⟨W7, hW7⟩ : ∃ W7, (w6.setCell ⟨b3, 0, none⟩ (.int .i64 3)).setCell ⟨b3, 3, none⟩ (.string yx) = W7 := ⟨_, rfl⟩
              have hDb : D ≠ b3 := by have := HDB.out; omega
              have hTb : T ≠ b3 := by have := HTB.out; omega
              have hwb : w.heap.size ≤ b3 := by have := HDB.out; have := HD.out; omega
              have K7 : Hid (Bk W7 b3 45 #[.int .i64 3, .int .i64 zk, .string ⟨#[]⟩, .string yx, .slice none 0 0, .bool false]) := by rw [← hW7]; exact K6.out.s03 _ _
              have D7 : Hid (Bk W7 D 45 tok0) := by rw [← hW7]; exact (D6.out.far (p := ⟨b3, 0, none⟩) hDb _).far (p := ⟨b3, 3, none⟩) hDb _
              have T7 : Hid (TX 84 W7 T s (s.data.toList.drop j)) := by rw [← hW7]; exact (T6.out.far (p := ⟨b3, 0, none⟩) hTb _).far (p := ⟨b3, 3, none⟩) hTb _
              have N7 : Hid (Tn T w.heap.size w W7) := by rw [← hW7]; exact (N6.out.setHigh (p := ⟨b3, 0, none⟩) hwb _).setHigh (p := ⟨b3, 3, none⟩) hwb _
              rw [hW7]
              clear hW7 c0 c3 f0 f3 hDb hTb hwb
              have c0 : W7.cell? ⟨b3, 0, none⟩ = some (.int .i64 3) := K7.out.cell 0
              have c1 : W7.cell? ⟨b3, 1, none⟩ = some (.int .i64 zk) := K7.out.cell 1
              have c2 : W7.cell? ⟨b3, 2, none⟩ = some (.string ⟨#[]⟩) := K7.out.cell 2
              have c3 : W7.cell? ⟨b3, 3, none⟩ = some (.string yx) := K7.out.cell 3
              have c4 : W7.cell? ⟨b3, 4, none⟩ = some (.slice none 0 0) := K7.out.cell 4
              have c5 : W7.cell? ⟨b3, 5, none⟩ = some (.bool false) := K7.out.cell 5
              obtain ⟨v0, d0⟩ : ∃ v, W7.cell? ⟨D, 0, none⟩ = some v := ⟨_, D7.out.cell 0⟩
              obtain ⟨v1, d1⟩ : ∃ v, W7.cell? ⟨D, 1, none⟩ = some v := ⟨_, D7.out.cell 1⟩
              obtain ⟨v2, d2⟩ : ∃ v, W7.cell? ⟨D, 2, none⟩ = some v := ⟨_, D7.out.cell 2⟩
              obtain ⟨v3, d3⟩ : ∃ v, W7.cell? ⟨D, 3, none⟩ = some v := ⟨_, D7.out.cell 3⟩
              obtain ⟨v4, d4⟩ : ∃ v, W7.cell? ⟨D, 4, none⟩ = some v := ⟨_, D7.out.cell 4⟩
              obtain ⟨v5, d5⟩ : ∃ v, W7.cell? ⟨D, 5, none⟩ = some v := ⟨_, D7.out.cell 5⟩
              have h0 : W7.frozen? ⟨D, 0, none⟩ = false := D7.out.free 0
              have h1 : W7.frozen? ⟨D, 1, none⟩ = false := D7.out.free 1
              have h2 : W7.frozen? ⟨D, 2, none⟩ = false := D7.out.free 2
              have h3 : W7.frozen? ⟨D, 3, none⟩ = false := D7.out.free 3
              have h4 : W7.frozen? ⟨D, 4, none⟩ = false := D7.out.free 4
              have h5 : W7.frozen? ⟨D, 5, none⟩ = false := D7.out.free 5
              go_wp2_with fail
              have KF := D7.out.six (.int .i64 3) (.int .i64 zk) (.string ⟨#[]⟩) (.string yx) (.slice none 0 0) (.bool false)
              have q0 : World.cell? (six D W7 (.int .i64 3) (.int .i64 zk) (.string ⟨#[]⟩) (.string yx) (.slice none 0 0) (.bool false)) ⟨D, 0, none⟩ = some (.int .i64 3) := KF.cell 0
              have q1 : World.cell? (six D W7 (.int .i64 3) (.int .i64 zk) (.string ⟨#[]⟩) (.string yx) (.slice none 0 0) (.bool false)) ⟨D, 1, none⟩ = some (.int .i64 zk) := KF.cell 1
              have q2 : World.cell? (six D W7 (.int .i64 3) (.int .i64 zk) (.string ⟨#[]⟩) (.string yx) (.slice none 0 0) (.bool false)) ⟨D, 2, none⟩ = some (.string ⟨#[]⟩) := KF.cell 2
              have q3 : World.cell? (six D W7 (.int .i64 3) (.int .i64 zk) (.string ⟨#[]⟩) (.string yx) (.slice none 0 0) (.bool false)) ⟨D, 3, none⟩ = some (.string yx) := KF.cell 3
              have q4 : World.cell? (six D W7 (.int .i64 3) (.int .i64 zk) (.string ⟨#[]⟩) (.string yx) (.slice none 0 0) (.bool false)) ⟨D, 4, none⟩ = some (.slice none 0 0) := KF.cell 4
              have q5 : World.cell? (six D W7 (.int .i64 3) (.int .i64 zk) (.string ⟨#[]⟩) (.string yx) (.slice none 0 0) (.bool false)) ⟨D, 5, none⟩ = some (.bool false) := KF.cell 5
              refine bodyPost_ret (v := .tuple #[.agg #[.int .i64 3, .int .i64 zk, .string ⟨#[]⟩, .string yx, .slice none 0 0, .bool false], .bool true]) (by simp [results, Tryz.results47, go_sem, q0, q1, q2, q3, q4, q5]) rfl ⟨⟨3, ⟨#[]⟩, yx, none, 0, 0, false, true, _, by rw [HZK.out], six_tx T7.out (by have := HTD.out; omega) _ _ _ _ _ _, ?_⟩, ?_⟩
              · exact TokIs.yes HR.out rfl rfl HYX.out.symm (RowA.nil _) rfl
              · exact six_tn N7.out (by have := HD.out; omega) _ _ _ _ _ _
          · have HR : Hid (tokL r = none) := (HTI.out []).2 hx1
            have hm2 : (m == 0) = false := by simpa using hm
            rw [hx2] at HBX2
            clear hx1 hx2 hm
            go_region_with ((go_at_call 68; refine (HBX2.out _ ?_).mono ?_; exact ⟨rfl, rfl, rfl, Nat.le_refl _, fun _ _ => rfl⟩; rintro e w6 ⟨rfl, b6⟩; have T6 : Hid (TX 84 w6 T s (s.data.toList.drop j)) := ⟨j, hjs, rfl, hbk.out.below b6 hbk.out.lt⟩; have K6 := Lib.hid (KR.out.below b6 KR.out.lt); have D6 := Lib.hid (DR.out.below b6 DR.out.lt); have N6 : Hid (Tn T w.heap.size w w6) := NR.out.trans (.of (b6.mono (by have := ZR.out; have := HDB.out; have := HD.out; omega))); clear b6))
            all_goals
              obtain ⟨u0, c0⟩ : ∃ v, w6.cell? ⟨b3, 0, none⟩ = some v := ⟨_, K6.out.cell 0⟩
              obtain ⟨u3, c3⟩ : ∃ v, w6.cell? ⟨b3, 3, none⟩ = some v := ⟨_, K6.out.cell 3⟩
              have f0 : w6.frozen? ⟨b3, 0, none⟩ = false := K6.out.free 0
              have f3 : w6.frozen? ⟨b3, 3, none⟩ = false := K6.out.free 3
              go_upto_region 13 with fail
              obtain ⟨W7, hW7⟩ : ∃ W7, (w6.setCell ⟨b3, 0, none⟩ (.int .i64 3)).setCell ⟨b3, 3, none⟩ (.string ⟨#[]⟩) = W7 := ⟨_, rfl⟩
              have hDb : D ≠ b3 := by have := HDB.out; omega
              have hTb : T ≠ b3 := by have := HTB.out; omega
              have hwb : w.heap.size ≤ b3 := by have := HDB.out; have := HD.out; omega
              have K7 : Hid (Bk W7 b3 45 #[.int .i64 3, .int .i64 zk, .string ⟨#[]⟩, .string ⟨#[]⟩, .slice none 0 0, .bool false]) := by rw [← hW7]; exact K6.out.s03 _ _
              have D7 : Hid (Bk W7 D 45 tok0) := by rw [← hW7]; exact (D6.out.far (p := ⟨b3, 0, none⟩) hDb _).far (p := ⟨b3, 3, none⟩) hDb _
              have T7 : Hid (TX 84 W7 T s (s.data.toList.drop j)) := by rw [← hW7]; exact (T6.out.far (p := ⟨b3, 0, none⟩) hTb _).far (p := ⟨b3, 3, none⟩) hTb _
              have N7 : Hid (Tn T w.heap.size w W7) := by rw [← hW7]; exact (N6.out.setHigh (p := ⟨b3, 0, none⟩) hwb _).setHigh (p := ⟨b3, 3, none⟩) hwb _
              rw [hW7]
              clear hW7 c0 c3 f0 f3 hDb hTb hwb
              have c0 : W7.cell? ⟨b3, 0, none⟩ = some (.int .i64 3) := K7.out.cell 0
              have c1 : W7.cell? ⟨b3, 1, none⟩ = some (.int .i64 zk) := K7.out.cell 1
              have c2 : W7.cell? ⟨b3, 2, none⟩ = some (.string ⟨#[]⟩) := K7.out.cell 2
              have c3 : W7.cell? ⟨b3, 3, none⟩ = some (.string ⟨#[]⟩) := K7.out.cell 3
              have c4 : W7.cell? ⟨b3, 4, none⟩ = some (.slice none 0 0) := K7.out.cell 4
              have c5 : W7.cell? ⟨b3, 5, none⟩ = some (.bool false) := K7.out.cell 5
              obtain ⟨v0, d0⟩ : ∃ v, W7.cell? ⟨D, 0, none⟩ = some v := ⟨_, D7.out.cell 0⟩
              obtain ⟨v1, d1⟩ : ∃ v, W7.cell? ⟨D, 1, none⟩ = some v := ⟨_, D7.out.cell 1⟩
              obtain ⟨v2, d2⟩ : ∃ v, W7.cell? ⟨D, 2, none⟩ = some v := ⟨_, D7.out.cell 2⟩
              obtain ⟨v3, d3⟩ : ∃ v, W7.cell? ⟨D, 3, none⟩ = some v := ⟨_, D7.out.cell 3⟩
              obtain ⟨v4, d4⟩ : ∃ v, W7.cell? ⟨D, 4, none⟩ = some v := ⟨_, D7.out.cell 4⟩
              obtain ⟨v5, d5⟩ : ∃ v, W7.cell? ⟨D, 5, none⟩ = some v := ⟨_, D7.out.cell 5⟩
              have h0 : W7.frozen? ⟨D, 0, none⟩ = false := D7.out.free 0
              have h1 : W7.frozen? ⟨D, 1, none⟩ = false := D7.out.free 1
              have h2 : W7.frozen? ⟨D, 2, none⟩ = false := D7.out.free 2
              have h3 : W7.frozen? ⟨D, 3, none⟩ = false := D7.out.free 3
              have h4 : W7.frozen? ⟨D, 4, none⟩ = false := D7.out.free 4
              have h5 : W7.frozen? ⟨D, 5, none⟩ = false := D7.out.free 5
              go_wp2_with fail
              have KF := D7.out.six (.int .i64 3) (.int .i64 zk) (.string ⟨#[]⟩) (.string ⟨#[]⟩) (.slice none 0 0) (.bool false)
              have q0 : World.cell? (six D W7 (.int .i64 3) (.int .i64 zk) (.string ⟨#[]⟩) (.string ⟨#[]⟩) (.slice none 0 0) (.bool false)) ⟨D, 0, none⟩ = some (.int .i64 3) := KF.cell 0
              have q1 : World.cell? (six D W7 (.int .i64 3) (.int .i64 zk) (.string ⟨#[]⟩) (.string ⟨#[]⟩) (.slice none 0 0) (.bool false)) ⟨D, 1, none⟩ = some (.int .i64 zk) := KF.cell 1
              have q2 : World.cell? (six D W7 (.int .i64 3) (.int .i64 zk) (.string ⟨#[]⟩) (.string ⟨#[]⟩) (.slice none 0 0) (.bool false)) ⟨D, 2, none⟩ = some (.string ⟨#[]⟩) := KF.cell 2
              have q3 : World.cell? (six D W7 (.int .i64 3) (.int .i64 zk) (.string ⟨#[]⟩) (.string ⟨#[]⟩) (.slice none 0 0) (.bool false)) ⟨D, 3, none⟩ = some (.string ⟨#[]⟩) := KF.cell 3
              have q4 : World.cell? (six D W7 (.int .i64 3) (.int .i64 zk) (.string ⟨#[]⟩) (.string ⟨#[]⟩) (.slice none 0 0) (.bool false)) ⟨D, 4, none⟩ = some (.slice none 0 0) := KF.cell 4
              have q5 : World.cell? (six D W7 (.int .i64 3) (.int .i64 zk) (.string ⟨#[]⟩) (.string ⟨#[]⟩) (.slice none 0 0) (.bool false)) ⟨D, 5, none⟩ = some (.bool false) := KF.cell 5
              refine bodyPost_ret (v := .tuple #[.agg #[.int .i64 3, .int .i64 zk, .string ⟨#[]⟩, .string ⟨#[]⟩, .slice none 0 0, .bool false], .bool false]) (by simp [results, Tryz.results47, go_sem, q0, q1, q2, q3, q4, q5]) rfl ⟨⟨3, ⟨#[]⟩, ⟨#[]⟩, none, 0, 0, false, false, _, by rw [HZK.out], six_tx T7.out (by have := HTD.out; omega) _ _ _ _ _ _, ?_⟩, ?_⟩
              · exact TokIs.no HR.out
              · exact six_tn N7.out (by have := HD.out; omega) _ _ _ _ _ _
end Go.Proofs.YtpomcamkkcggmaaGreatDoor
/-
  cardexref08.Tokens, at every text.
-/
namespace Go.Proofs.YtpomcamkkcggmaaGreatDoor
open Go.RowKit Tk

/-- An append of one token. -/
theorem push_tok {ops : Array Oper} {rest : List Oper} {o : Oper} {a : Act} {Q : Exit → Act → World → Prop} (hgd : o.guard = none) (s x : Operand) (ho : o.op = .call { callee := .builtin .append, args := #[s, x], argTypes := #[22, 22] })
    (B : Nat) (v : Value) (l : List TokA) (p : TokA) (u : Value) (kk kp : Int) (x1 x2 : ByteArray) (b : Bool) (e1 : kk = p.2.1) (e2 : kp = p.1) (e3 : x1 = bts p.2.2.1) (e4 : x2 = bts p.2.2.2.1) (e5 : b = p.2.2.2.2.2) (w0 : World) (hs : a.eval s = v) (hown : OwnK B w0 v l) (hu : RowA w0 u p.2.2.2.2.1) (hx : a.eval x = .slice (some ⟨w0.heap.size, 0, none⟩) 1 1) (hn : l.length ≤ 1000000000) (hB : B ≤ w0.heap.size)
    (h : ∀ v' w', OwnK B w' v' (l ++ [p]) → Below B w0 w' → (∀ k, k < w0.heap.size → some k ≠ v.ownBlock → w'.heap[k]? = w0.heap[k]?) → wpList Tryz.prog ops Q rest (a.put o.dst v') w') : wpList Tryz.prog ops Q (o :: rest) a (w0.alloc (.cells #[.int .i64 kk, .int .i64 kp, .string x1, .string x2, u, .bool b] 45)) := by
  subst e1 e2 e3 e4 e5
  obtain ⟨i0, hi, hz0, hz1, hz2⟩ := info_parts infoTok
  obtain ⟨ks, rfl, hown', hr⟩ := hown
  rw [List.length_map] at hn
  refine wpList_append_own _ hgd s x 22 ho B 45 i0 _ 6 80 Tryz.underlying22 hi hz0 hz1 hz2 rfl (by decide) v ks.length (kts ks) hs (hown'.alloc _) ⟨w0.heap.size, 0, none⟩ 1 1 (encK (p, u)) hx rfl ?_ ?_ ?_ (by omega) (by simp; omega) ?_
  · intro j y hj
    rw [add_at, cell_of_row _ _ _ #[_, _, _, _, _, _] _ (0, 0) (heap_alloc_new w0 _)]
    rw [Nat.zero_add]
    simpa [encK] using hj
  · intro y hy
    simp [encK] at hy
    rcases hy with rfl | rfl | rfl | rfl | rfl | rfl
    · rfl
    · rfl
    · rfl
    · rfl
    · exact hu.one
    · rfl
  · unfold maxLen; omega
  · intro v' w' hown2 hg _
    have hKA : KeepA w0 w' := grown_keepA hg (fun g e => by
      rcases hown'.2 with ⟨rfl, _⟩ | ⟨g', cap, cur, rfl, _, hh, _⟩
      · cases e
      · injection e with e
        subst e
        exact ⟨cur, hh⟩)
    refine h v' w' ⟨ks ++ [(p, u)], by simp, ?_, fun k hk => ?_⟩ (((Below.refl B w0).alloc hB _).grown hg (by simp; omega) (fun j hj => (World.ownsRow.lt hown' j hj).1)) (fun k hk hne => ?_)
    · rw [kts_append, kts_one, List.length_append, List.length_singleton]
      exact hown2
    · rcases List.mem_append.1 hk with hk | hk
      · exact (hr k hk).keep hKA
      · rw [List.mem_singleton] at hk
        subst hk
        exact hu.keep hKA
    · rw [hg.block k (by simp; omega) hne]
      exact Below.heap_alloc w0 _ k hk
set_option maxHeartbeats 8000000 in
set_option maxRecDepth 100000 in
theorem rtokens_any (s : ByteArray) (w : World) (hs : s.size < 4000000000) :
    Calls Tryz.prog 26 #[.string s] w fun e w' => ToksOut w.heap.size (tokensL s.data.toList) e w' ∧ Below w.heap.size w w' := by
  have HSZ := Lib.hid (Lib.size_eq s)
  by_cases hbig : 20000 < s.size
  · have HO : Hid (tokensL s.data.toList = ([], 0, 4)) := by unfold Hid tokensL; rw [if_pos (by rw [← Lib.size_eq]; exact hbig)]
    go_enter Tryz.func26, Tryz.ntmps26
    go_wp2_with fail
    refine bodyPost_ret (v := .tuple #[.slice none 0 0, .int .i64 0, .int .i64 4]) (by simp [results, Tryz.results26, go_sem]) rfl ⟨ToksOut.err HO.out rfl, Below.refl _ _⟩
  have HV := Lib.hid (rvalid_any s w (by omega))
  cases hv : Tx.valid s.data.toList with
  | false =>
    have HO : Hid (tokensL s.data.toList = ([], 0, 3)) := by unfold Hid tokensL; rw [if_neg (by rw [← Lib.size_eq]; exact hbig), hv]; rfl
    rw [hv] at HV
    clear hv
    go_enter Tryz.func26, Tryz.ntmps26
    go_wp2_with (go_at_call 45; refine HV.out.mono ?_; rintro e w1 ⟨rfl, rfl⟩)
    refine bodyPost_ret (v := .tuple #[.slice none 0 0, .int .i64 0, .int .i64 3]) (by simp [results, Tryz.results26, go_sem]) rfl ⟨ToksOut.err HO.out rfl, Below.refl _ _⟩
  | true =>
    have HO : Hid (tokensL s.data.toList = told s.size (toksL s.data.toList)) := by unfold Hid tokensL; rw [if_neg (by rw [← Lib.size_eq]; exact hbig), hv, HSZ.out]; rfl
    rw [hv] at HV
    clear hv
    have hs2 : s.size ≤ 100000000 := by omega
    obtain ⟨T, hTe⟩ : ∃ T, w.heap.size = T := ⟨_, rfl⟩
    obtain ⟨W2, hW2⟩ : ∃ W2, w.alloc (.cells #[.string s, .int .i64 0] 84) = W2 := ⟨_, rfl⟩
    have B2 : Hid (Below w.heap.size w W2) := by rw [← hW2]; exact (Below.refl _ _).alloc (Nat.le_refl _) _
    have T2 : Hid (TX 84 W2 T s s.data.toList) := by rw [← hW2, ← hTe]; exact ⟨0, Nat.zero_le _, rfl, Bk.new _ _ _⟩
    have HO2 := Lib.hid (ris_any T s headB s.data.toList W2 T2.out hs2 (by show 38 ≤ 1000; omega))
    rw [headB_list] at HO2
    unfold headB at HO2
    have HPL := Lib.hid (fun (j : Nat) (W : World) (h : Bk W T 84 #[.string s, .int .i64 j]) => place_of h)
    have HTK := Lib.hid (fun (k : Nat) (r : List UInt8) (W : World) (h : TX 84 W T s r) (a : s.size - r.length = k) (b : r ≠ []) => rtoken_any T k s r W h hs2 a b)
    have HTe := Lib.hid hTe
    go_enter Tryz.func26, Tryz.ntmps26
    go_wp2_with (go_at_call 45; refine HV.out.mono ?_; rintro e w1 ⟨rfl, rfl⟩)
    clear hW2 hTe
    refine HO2.out.mono ?_
    rintro e w3 ⟨rfl, t3, n3⟩
    have T3 := Lib.hid t3
    have B3 : Hid (Below w.heap.size w w3) := B2.out.trans (Tn.below (n3.mono B2.out.size) (Nat.le_of_eq HTe.out))
    have Z3 : Hid (T + 1 ≤ w3.heap.size) := T3.out.lt
    clear t3 n3
    go_wp2_with fail
    go_loopw [6] (fun lv wr => ∃ (xs : List TokA) (l : List UInt8), Hid (OwnK (T + 1) wr lv xs) ∧ Hid (TX 84 wr T s l) ∧ Hid (Below w.heap.size w wr) ∧ Hid (tokensL s.data.toList = told s.size (many (nextT s.size) xs l)) ∧ Hid (xs.find? great = none) ∧ Hid (xs.length + l.length ≤ s.size)) (fun _ wr => s.size - placeOf T wr)
    case atStart =>
      refine ⟨[], over headL s.data.toList, OwnK.nil _ _, T3.out, B3.out, ?_, rfl, by have := T3.out.len; unfold Hid; simpa using this⟩
      unfold Hid
      rw [HO.out]
      unfold toksL
      rw [← HSZ.out]
    case round =>
      obtain ⟨xs, l, ho, htx, hbw, htold, hfind, hlen⟩ := hrel
      obtain ⟨A, cap, rfl⟩ := ho.out.len
      obtain ⟨k, hk, hl, hbk, hkl⟩ := htx.out.at
      have c1 : wr.cell? ⟨T, 1, none⟩ = some (.int .i64 k) := hbk.cell 1
      have HBK := Lib.hid hbk
      have HL := Lib.hid hl
      have HKL := Lib.hid hkl
      have hpl := Lib.hid (HPL.out k wr hbk)
      have hTw := Lib.hid htx.out.lt
      clear hl hbk hkl
      by_cases hlt : k < s.size
      · have gB : decide ((k : Int) < (s.size : Int)) = true := decide_eq_true (by omega)
        have hlne : Hid (l ≠ []) := fun e => by have := HKL.out; rw [e] at this; simp at this; omega
        have HT1 := Lib.hid (HTK.out k l wr htx.out HKL.out hlne.out)
        obtain ⟨kz, hkz⟩ : ∃ kz : Int, (k : Int) = kz := ⟨_, rfl⟩
        have HKZ := Lib.hid hkz
        rw [hkz] at c1 gB HT1
        clear hkz
        go_wp2_with fail
        refine HT1.out.mono ?_
        rintro e w5 ⟨⟨kk, x5, y5, A5, n5, cap5, b5, ok5, r5, rfl, t5, i5⟩, n5'⟩
        have B5 : Hid (Below w.heap.size w w5) := hbw.out.trans (Tn.below (n5'.mono hbw.out.size) (Nat.le_of_eq HTe.out))
        have O5 : Hid (OwnK (T + 1) w5 (.slice A xs.length cap) xs) := ho.out.tn n5' HBK.out (by decide) (by decide)
        have Z5 : Hid (T + 1 ≤ w5.heap.size) := Nat.le_trans hTw.out n5'.size
        have T5 := Lib.hid t5
        have I5 := Lib.hid i5
        clear t5 i5 n5'
        cases htk : tokL l with
        | none =>
          have hI := I5.out
          rw [htk] at hI
          obtain rfl : ok5 = false := hI
          have HR : Hid (tokensL s.data.toList = ([], k, 5)) := by
            unfold Hid
            rw [htold.out, told_bad hfind.out htk hlne.out, HKL.out]
          have BF : Hid (Below w.heap.size w (w5.alloc (.cells #[.int .i64 kk, .int .i64 kz, .string x5, .string y5, .slice A5 n5 cap5, .bool b5] 45))) := B5.out.alloc B5.out.size _
          clear htk
          go_wp2_with fail
          refine bodyPost_ret (v := .tuple #[.slice none 0 0, .int .i64 kz, .int .i64 5]) (by simp [results, Tryz.results26, go_sem]) rfl ⟨ToksOut.err HR.out (by rw [HKZ.out]; rfl), BF.out⟩
        | some q =>
          obtain ⟨t, r⟩ := q
          have hI := I5.out
          rw [htk] at hI
          obtain ⟨rfl, i1, i2, i3, i4, i5, rfl⟩ := hI
          obtain ⟨A6, cap6, e6, _⟩ := id i4
          injection e6 with e61 e62 e63
          subst e62
          have I1 := Lib.hid i1
          have I2 := Lib.hid i2
          have I3 := Lib.hid i3
          have I4 := Lib.hid i4
          have I6 := Lib.hid i5
          have HTKL := Lib.hid htk
          clear i1 i2 i3 i4 i5 htk e61 e63
          obtain ⟨g, hg⟩ : ∃ g, w5.heap.size = g := ⟨_, rfl⟩
          obtain ⟨W6, hW6⟩ : ∃ W6, w5.alloc (.cells #[.int .i64 kk, .int .i64 kz, .string x5, .string y5, .slice A5 t.2.2.2.1.length cap5, .bool b5] 45) = W6 := ⟨_, rfl⟩
          have K6 : Hid (Bk W6 g 45 #[.int .i64 kk, .int .i64 kz, .string x5, .string y5, .slice A5 t.2.2.2.1.length cap5, .bool b5]) := by rw [← hW6, ← hg]; exact Bk.new _ _ _
          have T6 : Hid (TX 84 W6 T s r5) := by rw [← hW6]; exact T5.out.alloc _
          have hw56 : Below w5.heap.size w5 W6 := by rw [← hW6]; exact (Below.refl _ _).alloc (Nat.le_refl _) _
          have B6 : Hid (Below w.heap.size w W6) := B5.out.trans (hw56.mono B5.out.size)
          have O6 : Hid (OwnK (T + 1) W6 (.slice A xs.length cap) xs) := O5.out.below hw56
          have U6 : Hid (RowA W6 (.slice A5 t.2.2.2.1.length cap5) t.2.2.2.1) := I4.out.keep (KeepA.below hw56)
          have Z6 : Hid (T + 1 ≤ W6.heap.size) := Nat.le_trans Z5.out hw56.size
          have hal : t.2.2.2.1.length ≤ s.size := by have := tok_attrs HTKL.out; have := htx.out.len; omega
          obtain ⟨m, hm⟩ : ∃ m, t.2.2.2.1.length = m := ⟨_, rfl⟩
          have HM := Lib.hid hm
          have c0 : W6.cell? ⟨g, 0, none⟩ = some (.int .i64 kk) := K6.out.cell 0
          have c2 : W6.cell? ⟨g, 1, none⟩ = some (.int .i64 kz) := K6.out.cell 1
          have c3 : W6.cell? ⟨g, 2, none⟩ = some (.string x5) := K6.out.cell 2
          have c4 : W6.cell? ⟨g, 3, none⟩ = some (.string y5) := K6.out.cell 3
          have c5 : W6.cell? ⟨g, 4, none⟩ = some (.slice A5 t.2.2.2.1.length cap5) := K6.out.cell 4
          have c6 : W6.cell? ⟨g, 5, none⟩ = some (.bool b5) := K6.out.cell 5
          rw [hm] at hal hW6 c5 ⊢
          clear hm hw56 c1
          by_cases hgr : 10 < m
          · have HR : Hid (tokensL s.data.toList = ([], k, 4)) := by
              unfold Hid
              rw [htold.out, told_big hfind.out HTKL.out (by rw [HM.out]; exact hgr), HKL.out]
            go_wp2_with fail
            refine bodyPost_ret (v := .tuple #[.slice none 0 0, .int .i64 kz, .int .i64 4]) (by simp [results, Tryz.results26, go_sem]) rfl ⟨ToksOut.err HR.out (by rw [HKZ.out]; rfl), B6.out⟩
          · have HR : Hid (tokensL s.data.toList = told s.size (many (nextT s.size) (xs ++ [(k, t)]) r5)) := by
              unfold Hid
              rw [htold.out, told_step HTKL.out, HKL.out]
            have HF : Hid ((xs ++ [(k, t)]).find? great = none) := find_snoc hfind.out (by rw [HM.out]; exact hgr)
            have hsh := Lib.hid (tok_len HTKL.out)
            have hxl : xs.length ≤ 1000000000 := by have := hlen.out; omega
            have hzz := Z6.out
            have hu6 := U6.out
            rw [HM.out] at hu6
            go_wp2_with (at_builtin; refine push_tok rfl _ _ rfl (T + 1) (.slice A xs.length cap) xs (k, t) (.slice A5 m cap5) kk kz x5 y5 b5 I1.out HKZ.out.symm I2.out I3.out I6.out W6 rfl O6.out hu6 rfl hxl hzz ?_)
            intro v8 w8 o8 b8 k8
            have T8 := Lib.hid (T6.out.below b8 (Nat.lt_succ_self _))
            have B8 : Hid (Below w.heap.size w w8) := B6.out.trans (b8.mono (by have := HTe.out; omega))
            have O8 := Lib.hid o8
            clear o8 b8 k8
            go_wp2_with fail
            go_roundw
            case rel => exact ⟨xs ++ [(k, t)], r5, O8.out, T8.out, B8.out, HR.out, HF.out, by unfold Hid; rw [List.length_append, List.length_singleton]; have := hsh.out; have := hlen.out; omega⟩
            case measure =>
              obtain ⟨j, _, _, hj, hj2⟩ := T8.out.at
              rw [hpl.out, HPL.out j _ hj]
              have := hsh.out
              have := HKL.out
              have := T8.out.len
              have := htx.out.len
              omega
      · have gB : decide ((k : Int) < (s.size : Int)) = false := decide_eq_false (by omega)
        have HR : Hid (tokensL s.data.toList = (xs, 0, 0)) := by
          unfold Hid
          have : l = [] := by rw [HL.out]; exact List.drop_eq_nil_of_le (by rw [← HSZ.out]; omega)
          rw [htold.out, this, told_end hfind.out]
        go_wp2_with fail
        refine bodyPost_ret (v := .tuple #[.slice A xs.length cap, .int .i64 0, .int .i64 0]) (by simp [results, Tryz.results26, go_sem]) rfl ⟨⟨_, by rw [HR.out]; rfl, ?_⟩, hbw.out⟩
        rw [HR.out]
        exact ho.out.weak (by have := HTe.out; omega)
end Go.Proofs.YtpomcamkkcggmaaGreatDoor
