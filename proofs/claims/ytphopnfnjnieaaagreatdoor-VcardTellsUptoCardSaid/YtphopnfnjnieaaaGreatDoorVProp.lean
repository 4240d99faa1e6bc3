/-
  package vcard: a parameter, all of them, a group and a name, a property: what they answer, at every line.
-/
import Derived.Test.YtphopnfnjnieaaaGreatDoorVLine
namespace Go.Proofs.YtphopnfnjnieaaaGreatDoor
open Go.RowKit Vc

/-- strings.ToUpper of a word -/
theorem upper_any (s : ByteArray) (w : World) (hs : s.size ≤ 1000000000) (hw : ∀ c ∈ s.data.toList, wc c = true) :
    Calls Tryz.prog 80 #[.string s] w fun e w' => e = .returned (.string (bts (up s.data.toList))) ∧ Below w.heap.size w w' := by
  have H := Tryz.strings_ToUpper_ascii s w (by omega) (fun j b hb => by
    have h := hw b (List.mem_of_getElem? hb)
    have key : ∀ x : Fin 256, wc (UInt8.ofNat x.val) = true → (UInt8.ofNat x.val).toNat < 128 := by decide +kernel
    have := key ⟨b.toNat, UInt8.toNat_lt b⟩
    rw [toNat_to] at this
    exact this h)
  rw [upper_up] at H
  exact H
theorem while_wc (l : List UInt8) : ∀ c ∈ l.takeWhile wc, wc c = true := fun c hc => List.all_eq_true.1 List.all_takeWhile c hc
theorem bts_ne {l : List UInt8} (h : l ≠ []) : (bts l).toList.isEmpty = false := by
  rw [ByteArray.toList_mk]
  cases l with
  | nil => exact absurd rfl h
  | cons c t => rfl
theorem bts_nil : (bts []).toList.isEmpty = true := by
  rw [ByteArray.toList_mk]
  rfl
/-- What a parameter's call answers. -/
def ParV (l : List UInt8) (e : Ending) : Prop := ∃ (a : Par) (m : List UInt8), e = .returned (.tuple #[.agg #[.string (bts a.1), .string (bts a.2)], .string (bts m), .bool (parL l).isSome]) ∧ ∀ x, parL l = some x → x = (a, m)
theorem ParV.no {l : List UInt8} (h : parL l = none) (a1 a2 m : ByteArray) : ParV l (.returned (.tuple #[.agg #[.string a1, .string a2], .string m, .bool false])) :=
  ⟨(a1.data.toList, a2.data.toList), m.data.toList, by rw [h]; rfl, fun x hx => by rw [h] at hx; cases hx⟩
theorem ParV.yes {l : List UInt8} {a : Par} {m : List UInt8} (h : parL l = some (a, m)) : ParV l (.returned (.tuple #[.agg #[.string (bts a.1), .string (bts a.2)], .string (bts m), .bool true])) :=
  ⟨a, m, by rw [h]; rfl, fun x hx => by rw [h] at hx; exact (Option.some.inj hx).symm⟩
theorem par_word {l : List UInt8} (h : l.takeWhile wc = []) : parL l = none := by unfold parL; rw [if_pos h]
theorem par_eq {l : List UInt8} (h : (l.dropWhile wc).head? ≠ some 61) : parL l = none := by
  unfold parL
  split
  · rfl
  · split
    · rename_i r e; rw [e] at h; exact absurd rfl h
    · rfl
theorem par_val {l r : List UInt8} (h : l.takeWhile wc ≠ []) (h2 : l.dropWhile wc = 61 :: r) : parL l = (pvalL r).map fun v => ((up (l.takeWhile wc), v.1), v.2) := by
  unfold parL
  rw [if_neg h, h2]
  rfl
theorem two_of {w : World} {g : Nat} {t : TypeId} {cs : Array Value} (h : Bk w g t cs) (hc : ∃ a b, cs = #[a, b]) (u v : Value) : Bk ((w.setCell ⟨g, 0, none⟩ u).setCell ⟨g, 1, none⟩ v) g t #[u, v] := by
  obtain ⟨a, b, rfl⟩ := hc
  exact h.two u v
theorem below_two {B g : Nat} {w0 w : World} (h : Below B w0 w) (hg : B ≤ g) (u v : Value) : Below B w0 ((w.setCell ⟨g, 0, none⟩ u).setCell ⟨g, 1, none⟩ v) := (h.setCell (p := ⟨g, 0, none⟩) hg u).setCell (p := ⟨g, 1, none⟩) hg v
set_option maxHeartbeats 2000000 in
set_option maxRecDepth 100000 in
/-- vcard.parameter -/
theorem parameter_any (s : ByteArray) (w : World) (hM : MaxL w) (hs : s.size ≤ 1000000000) :
    Calls Tryz.prog 95 #[.string s] w fun e w' => ParV s.data.toList e ∧ Below w.heap.size w w' := by
  obtain ⟨l, hl⟩ : ∃ l, s.data.toList = l := ⟨_, rfl⟩
  have hsz := Lib.size_eq s
  rw [hl] at hsz
  have tl := take_le wc l
  have dl := drop_le wc l
  have HW : Hid (∀ W : World, Calls Tryz.prog 94 #[.string s] W fun e w' => e = .returned (.tuple #[.string (bts (l.takeWhile wc)), .string (bts (l.dropWhile wc))]) ∧ Below W.heap.size W w') := fun W => by
    have := word_any s W hs
    rwa [hl] at this
  have HU := Lib.hid (fun (W : World) => upper_any (bts (l.takeWhile wc)) W (by rw [bts_size]; omega) (while_wc l))
  have HM := Lib.hid hM
  obtain ⟨a, ha⟩ : ∃ a, bts (l.takeWhile wc) = a := ⟨_, rfl⟩
  obtain ⟨b, hb⟩ : ∃ b, bts (l.dropWhile wc) = b := ⟨_, rfl⟩
  have HA := Lib.hid ha
  have HB := Lib.hid hb
  rw [ha] at HW HU
  rw [hb] at HW
  have hal : a.data.toList = l.takeWhile wc := by rw [← ha]
  have hbl : b.data.toList = l.dropWhile wc := by rw [← hb]
  rw [hal] at HU
  have hbs : b.size ≤ 1000000000 := by rw [← hb, bts_size]; omega
  rw [hl]
  have HAL := Lib.hid hal
  have HBL := Lib.hid hbl
  clear hM ha hb hal hbl tl dl hsz hl
  by_cases h61 : (l.dropWhile wc).head? = some 61
  case' neg =>
    have HP := Lib.hid (par_eq h61)
    have HC : Hid (∀ W : World, Calls Tryz.prog 79 #[.string b, .string ⟨#[61]⟩] W fun e w' => e = .returned (.tuple #[.string b, .bool false]) ∧ w' = W) := fun W => cutp1_no 61 b W (by rw [HBL.out]; exact h61)
    clear h61
    go_enter Tryz.func95, Tryz.ntmps95
    go_wp2_with fail
    refine (HW.out _).mono ?_
    rintro e w1 ⟨rfl, b1⟩
    have K1 := Lib.hid ((Bk.new w 38 #[.string ⟨#[]⟩, .string ⟨#[]⟩]).below b1 (Bk.new _ _ _).lt)
    have B1 : Hid (Below w.heap.size w w1) := ((Below.refl _ w).alloc (Nat.le_refl _) _).trans (b1.mono (by simp))
    obtain ⟨v0, d0⟩ : ∃ v, w1.cell? ⟨w.heap.size, 0, none⟩ = some v := ⟨_, K1.out.cell 0⟩
    obtain ⟨v1, d1⟩ : ∃ v, w1.cell? ⟨w.heap.size, 1, none⟩ = some v := ⟨_, K1.out.cell 1⟩
    have f0 : w1.frozen? ⟨w.heap.size, 0, none⟩ = false := K1.out.free 0
    have f1 : w1.frozen? ⟨w.heap.size, 1, none⟩ = false := K1.out.free 1
    clear b1
    go_wp2_with fail
    refine (HC.out _).mono ?_
    rintro e w2 ⟨rfl, rfl⟩
    go_wp2_with fail
    have KF := two_of K1.out ⟨_, _, rfl⟩ (.string ⟨#[]⟩) (.string ⟨#[]⟩)
    have q0 : World.cell? ((w2.setCell ⟨w.heap.size, 0, none⟩ (.string ⟨#[]⟩)).setCell ⟨w.heap.size, 1, none⟩ (.string ⟨#[]⟩)) ⟨w.heap.size, 0, none⟩ = some (.string ⟨#[]⟩) := KF.cell 0
    have q1 : World.cell? ((w2.setCell ⟨w.heap.size, 0, none⟩ (.string ⟨#[]⟩)).setCell ⟨w.heap.size, 1, none⟩ (.string ⟨#[]⟩)) ⟨w.heap.size, 1, none⟩ = some (.string ⟨#[]⟩) := KF.cell 1
    refine bodyPost_ret (v := .tuple #[.agg #[.string ⟨#[]⟩, .string ⟨#[]⟩], .string ⟨#[]⟩, .bool false]) (by simp [results, Tryz.results95, go_sem, q0, q1]) rfl ⟨ParV.no HP.out _ _ _, below_two B1.out (Nat.le_refl _) _ _⟩
  obtain ⟨r, hr⟩ : ∃ r, l.dropWhile wc = 61 :: r := by
    cases hd : l.dropWhile wc with
    | nil => rw [hd] at h61; cases h61
    | cons x t => rw [hd] at h61; exact ⟨t, by rw [show x = 61 by simpa using h61]⟩
  have HC := Lib.hid (fun (W : World) => cutp1_yes 61 b r W (by rw [HBL.out]; exact hr))
  have HR := Lib.hid hr
  have hrs : (bts r).size ≤ 1000000000 := by
    have h1 := Lib.size_eq b
    rw [HBL.out, hr] at h1
    rw [bts_size]
    simp only [List.length_cons] at h1
    omega
  clear h61 hr
  by_cases h0 : l.takeWhile wc = []
  · have HP := Lib.hid (par_word h0)
    have ga : a.toList.isEmpty = true := by rw [← HA.out, h0]; exact bts_nil
    clear h0
    go_enter Tryz.func95, Tryz.ntmps95
    go_wp2_with fail
    refine (HW.out _).mono ?_
    rintro e w1 ⟨rfl, b1⟩
    have K1 := Lib.hid ((Bk.new w 38 #[.string ⟨#[]⟩, .string ⟨#[]⟩]).below b1 (Bk.new _ _ _).lt)
    have B1 : Hid (Below w.heap.size w w1) := ((Below.refl _ w).alloc (Nat.le_refl _) _).trans (b1.mono (by simp))
    obtain ⟨v0, d0⟩ : ∃ v, w1.cell? ⟨w.heap.size, 0, none⟩ = some v := ⟨_, K1.out.cell 0⟩
    obtain ⟨v1, d1⟩ : ∃ v, w1.cell? ⟨w.heap.size, 1, none⟩ = some v := ⟨_, K1.out.cell 1⟩
    have f0 : w1.frozen? ⟨w.heap.size, 0, none⟩ = false := K1.out.free 0
    have f1 : w1.frozen? ⟨w.heap.size, 1, none⟩ = false := K1.out.free 1
    clear b1
    go_wp2_with fail
    refine (HC.out _).mono ?_
    rintro e w2 ⟨rfl, rfl⟩
    go_wp2_with fail
    have KF := two_of K1.out ⟨_, _, rfl⟩ (.string ⟨#[]⟩) (.string ⟨#[]⟩)
    have q0 : World.cell? ((w2.setCell ⟨w.heap.size, 0, none⟩ (.string ⟨#[]⟩)).setCell ⟨w.heap.size, 1, none⟩ (.string ⟨#[]⟩)) ⟨w.heap.size, 0, none⟩ = some (.string ⟨#[]⟩) := KF.cell 0
    have q1 : World.cell? ((w2.setCell ⟨w.heap.size, 0, none⟩ (.string ⟨#[]⟩)).setCell ⟨w.heap.size, 1, none⟩ (.string ⟨#[]⟩)) ⟨w.heap.size, 1, none⟩ = some (.string ⟨#[]⟩) := KF.cell 1
    refine bodyPost_ret (v := .tuple #[.agg #[.string ⟨#[]⟩, .string ⟨#[]⟩], .string ⟨#[]⟩, .bool false]) (by simp [results, Tryz.results95, go_sem, q0, q1]) rfl ⟨ParV.no HP.out _ _ _, below_two B1.out (Nat.le_refl _) _ _⟩
  · have HP := Lib.hid (par_val h0 HR.out)
    have ga : a.toList.isEmpty = false := by rw [← HA.out]; exact bts_ne h0
    have HF := Lib.hid (fun (W : World) (h : Below w.heap.size w W) => firstValue_any (bts r) W (HM.out.below h) hrs)
    obtain ⟨rb, hrb⟩ : ∃ rb, bts r = rb := ⟨_, rfl⟩
    have HRB : Hid (rb.data.toList = r) := by rw [← hrb]; rfl
    rw [hrb] at HF HC hrs
    clear h0 hrb
    go_enter Tryz.func95, Tryz.ntmps95
    go_wp2_with fail
    refine (HW.out _).mono ?_
    rintro e w1 ⟨rfl, b1⟩
    have K1 := Lib.hid ((Bk.new w 38 #[.string ⟨#[]⟩, .string ⟨#[]⟩]).below b1 (Bk.new _ _ _).lt)
    have B1 : Hid (Below w.heap.size w w1) := ((Below.refl _ w).alloc (Nat.le_refl _) _).trans (b1.mono (by simp))
    clear b1
    go_wp2_with fail
    refine (HC.out _).mono ?_
    rintro e w2 ⟨rfl, rfl⟩
    go_wp2_with fail
    refine (HF.out _ B1.out).mono ?_
    rintro e w3 ⟨⟨v, m, rfl, hv⟩, b3⟩
    rw [HRB.out] at hv
    have HV := Lib.hid hv
    obtain ⟨ok, hok⟩ : ∃ ok, (pvalL rb.data.toList).isSome = ok := ⟨_, rfl⟩
    have hok2 := hok
    rw [HRB.out] at hok2
    have HOK := Lib.hid hok2
    obtain ⟨vb, hvb⟩ : ∃ vb, bts v = vb := ⟨_, rfl⟩
    obtain ⟨mb, hmb⟩ : ∃ mb, bts m = mb := ⟨_, rfl⟩
    have HVB := Lib.hid hvb
    have HMB := Lib.hid hmb
    rw [hok, hvb, hmb]
    have B3 : Hid (Below w.heap.size w w3) := B1.out.trans (b3.mono B1.out.size)
    have K3 := Lib.hid (K1.out.below b3 K1.out.lt)
    clear hv hok hok2 hvb hmb b3
    go_wp2_with fail
    refine (HU.out _).mono ?_
    rintro e w4 ⟨rfl, b4⟩
    have B4 : Hid (Below w.heap.size w w4) := B3.out.trans (b4.mono B3.out.size)
    have K4 := Lib.hid (K3.out.below b4 K3.out.lt)
    obtain ⟨ub, hub⟩ : ∃ ub, bts (up (l.takeWhile wc)) = ub := ⟨_, rfl⟩
    have HUB := Lib.hid hub
    rw [hub]
    clear hub b4
    obtain ⟨v0, d0⟩ : ∃ v, w4.cell? ⟨w.heap.size, 0, none⟩ = some v := ⟨_, K4.out.cell 0⟩
    obtain ⟨v1, d1⟩ : ∃ v, w4.cell? ⟨w.heap.size, 1, none⟩ = some v := ⟨_, K4.out.cell 1⟩
    have f0 : w4.frozen? ⟨w.heap.size, 0, none⟩ = false := K4.out.free 0
    have f1 : w4.frozen? ⟨w.heap.size, 1, none⟩ = false := K4.out.free 1
    go_wp2_with fail
    have KF := two_of K4.out ⟨_, _, rfl⟩ (.string ub) (.string vb)
    have q0 : World.cell? ((w4.setCell ⟨w.heap.size, 0, none⟩ (.string ub)).setCell ⟨w.heap.size, 1, none⟩ (.string vb)) ⟨w.heap.size, 0, none⟩ = some (.string ub) := KF.cell 0
    have q1 : World.cell? ((w4.setCell ⟨w.heap.size, 0, none⟩ (.string ub)).setCell ⟨w.heap.size, 1, none⟩ (.string vb)) ⟨w.heap.size, 1, none⟩ = some (.string vb) := KF.cell 1
    refine bodyPost_ret (v := .tuple #[.agg #[.string ub, .string vb], .string mb, .bool ok]) (by simp [results, Tryz.results95, go_sem, q0, q1]) rfl ⟨?_, below_two B4.out (Nat.le_refl _) _ _⟩
    cases hp : pvalL r with
    | none =>
      have hoke : ok = false := by rw [← HOK.out, hp]; rfl
      subst hoke
      exact ParV.no (by rw [HP.out, hp]; rfl) _ _ _
    | some x =>
      have hx := HV.out x hp
      subst hx
      have hoke : ok = true := by rw [← HOK.out, hp]; rfl
      subst hoke
      rw [← HUB.out, ← HVB.out, ← HMB.out]
      exact ParV.yes (a := (up (l.takeWhile wc), v)) (by rw [HP.out, hp]; rfl)
end Go.Proofs.YtphopnfnjnieaaaGreatDoor
