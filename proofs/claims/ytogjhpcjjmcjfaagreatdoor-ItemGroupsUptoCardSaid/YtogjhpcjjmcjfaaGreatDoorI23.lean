import Derived.Test.YtogjhpcjjmcjfaaGreatDoorI20
import Derived.Test.YtogjhpcjjmcjfaaGreatDoorI22
/- what is reached of it -/
namespace Go.Proofs.YtogjhpcjjmcjfaaGreatDoor
open Go.RowKit Rg Tx
/-- A text as it is kept, or why not. -/
def prepV (k : Nat) (l : List UInt8) : Value := .tuple #[.string ⟨(Pr.prepL k l).1.toArray⟩, .int .i64 ((Pr.prepL k l).2 : Nat)]
theorem prepV_of {k : Nat} {l a : List UInt8} {n : Nat} (h : Pr.prepL k l = (a, n)) : prepV k l = .tuple #[.string ⟨a.toArray⟩, .int .i64 (n : Nat)] := by unfold prepV; rw [h]
set_option maxHeartbeats 4000000 in
theorem kept_any (k : Nat) (s : ByteArray) (u q : Value) (w : World) (hT : Tabs w) (hs : s.size ≤ 1000000000) (hp : Adds w u (Pr.put (k != 3))) (hq : Asks w q (Pr.wrong k)) :
    Calls Tryz.prog 109 #[.string s, u, q] w fun e w' => e = .returned (prepV k s.data.toList) ∧ Below w.heap.size w w' := by
  have HV := Lib.hid (valid_any s w hT (by omega))
  have HR := Lib.hid (fun W (h : Below w.heap.size w W) => runes_any s W (hT.below h) (by omega))
  have HP := Lib.hid hp
  have HQ := Lib.hid hq
  have hsz := Lib.size_eq s
  cases hch : ch s.data.toList with
  | none =>
    have HF := Lib.hid (prepV_of (Pr.prepL_bad (k := k) (valid_none hch)))
    rw [valid_none hch] at HV
    rw [HF.out]
    obtain ⟨F, cb, rfl, -, -⟩ := hp
    obtain ⟨G, gb, rfl, -, -⟩ := hq
    clear hch hsz hT
    go_enter Tryz.func109, Tryz.ntmps109
    go_wp2_with fail
    refine HV.out.mono ?_
    rintro e w1 ⟨rfl, b1⟩
    go_wp2_with fail
    go_ret2
    exact ⟨rfl, b1⟩
  | some x =>
    have hx0 := ch_good_all _ _ _ (Nat.le_refl _) hch
    have hxl := ch_length _ _ _ (Nat.le_refl _) hch
    rw [← hsz] at hxl
    have hxm : ∀ c ∈ x, c ≤ 1114111 := fun c hc => by have := (hx0 c hc).1; unfold sane at this; omega
    have hone : ∀ c, (Pr.one (k != 3) c).length ≤ 2 := fun c => by
      unfold Pr.one Pr.put Pr.small
      repeat' split
      all_goals simp
    have hyl := flatMap_len hone x
    obtain ⟨y, hy⟩ : ∃ y, x.flatMap (Pr.one (k != 3)) = y := ⟨_, rfl⟩
    have hys : ∀ c ∈ y, sane c := by
      rw [← hy]
      exact Pr.mapL_each (p := sane) fun c hc d hd => (Pr.one_fine _ (hx0 c hc) d hd).1
    have hpl : Pr.prepL k s.data.toList = Pr.prepC k y := by rw [Pr.prepL_ch hch, ← hy]; rfl
    rw [hy] at hyl
    have HL := Lib.hid (fun W (h : Below w.heap.size w W) => lean_any u _ W (hp.below h))
    have HM := Lib.hid (fun v f W (hv : Reads W.heap.size W v x) (ha : Adds W f (Pr.one (k != 3))) => mapped_any v f x _ W hv (by omega) hxm hone ha)
    have HC := Lib.hid (fun v q W (hv : Reads W.heap.size W v y) (ha : Asks W q (Pr.wrong k)) => containsFunc_any v q y _ W hv (by omega) ha)
    have HO := Lib.hid (fun v W (hv : Reads W.heap.size W v y) => oneWay_any v y W hv (by omega))
    have HB := Lib.hid (fun v W (hv : Reads W.heap.size W v y) => bytes_any v y W hv (by omega) hys)
    have HT : Hid (∀ B W v, OwnB B W v (flat y) → (convert 128 9 v).run Tryz.prog W = .ok (.string ⟨(flat y).toArray⟩) W) := fun B W v h => h.text Tryz.underlying128 Tryz.underlying5 Tryz.underlying9
    rw [hy] at HM
    have HX := Lib.hid (valid_runes (valid_some hch))
    have hrx : runes s.data.toList = x := runes_some hch
    have HR2 := Lib.hid (fun W (h : Below w.heap.size w W) => (HR.out W h).mono (fun e w' (h : RunesGives W.heap.size W s.data.toList e w') => show ∃ v, e = .returned v ∧ Owned W.heap.size w' v x ∧ Below W.heap.size W w' from by obtain ⟨v, h1, h2, h3⟩ := h; rw [hrx] at h2; exact ⟨v, h1, h2, h3⟩))
    rw [valid_some hch] at HV
    obtain ⟨r, hr⟩ : ∃ r, prepV k s.data.toList = r := ⟨_, rfl⟩
    have HE := Lib.hid (fun a n (h : Pr.prepC k y = (a, n)) => hr.symm.trans (prepV_of (hpl.trans h)))
    have HC0 := Lib.hid (fun (h : y.any (Pr.wrong k) = true) => HE.out _ _ (Pr.prepC_char h))
    have HC1 := Lib.hid (fun (h : y.any (Pr.wrong k) = false) (h2 : Pr.wayB y = false) => HE.out _ _ (Pr.prepC_ways h h2))
    have HC2 := Lib.hid (fun (h : y.any (Pr.wrong k) = false) (h2 : Pr.wayB y = true) => HE.out _ _ (Pr.prepC_kept h h2))
    rw [hr]
    obtain ⟨F, cb, rfl, -, -⟩ := hp
    obtain ⟨G, gb, rfl, -, -⟩ := hq
    clear hch hsz hT hx0 hxl hxm hone hyl hy hys hpl hrx hr HR HX HE
    go_enter Tryz.func109, Tryz.ntmps109
    go_wp2_with fail
    refine HV.out.mono ?_
    rintro e w1 ⟨rfl, b1⟩
    have B1 := Lib.hid b1
    clear b1
    go_wp2_with fail
    refine (HR2.out w1 B1.out).mono ?_
    rintro e w2 ⟨v2, rfl, o2, b2⟩
    have B2 := Lib.hid (B1.out.trans (b2.mono B1.out.size))
    have O2 := Lib.hid o2
    obtain ⟨A2, c2, rfl⟩ := o2.slice
    clear o2 b2
    go_wp2_with fail
    refine (HL.out w2 B2.out).mono ?_
    rintro e w3 ⟨v3, rfl, a3, b3⟩
    have B3 := Lib.hid (B2.out.trans (b3.mono B2.out.size))
    have O3 := Lib.hid (O2.out.below b3)
    have A3 := Lib.hid a3
    obtain ⟨L, lb, rfl, -, -⟩ := a3
    have M3 := Lib.hid (HM.out _ _ w3 O3.out.reads A3.out)
    clear b3
    go_wp2_with fail
    refine M3.out.mono ?_
    rintro e w4 ⟨v4, rfl, o4, b4⟩
    have B4 := Lib.hid (B3.out.trans (b4.mono B3.out.size))
    have O4 := Lib.hid o4
    obtain ⟨A4, c4, hv4⟩ := o4.slice
    obtain ⟨n4, hn4⟩ : ∃ n4, y.length = n4 := ⟨_, rfl⟩
    rw [hn4] at hv4
    subst hv4
    have C4 := Lib.hid (HC.out _ _ w4 O4.out.reads (HQ.out.below B4.out))
    obtain ⟨b, hb⟩ : ∃ b, y.any (Pr.wrong k) = b := ⟨_, rfl⟩
    rw [hb] at C4
    have HBB := Lib.hid hb
    clear o4 b4 M3 hb hn4
    go_wp2_with fail
    refine C4.out.mono ?_
    rintro e w5 ⟨rfl, b5⟩
    have B5 := Lib.hid (B4.out.trans (b5.mono B4.out.size))
    have O5 := Lib.hid (O4.out.below b5)
    clear b5
    cases b with
    | true =>
      have HF := Lib.hid (HC0.out HBB.out)
      go_wp2_with fail
      go_ret2
      exact ⟨by rw [HF.out]; rfl, B5.out⟩
    | false =>
      have W5 := Lib.hid (HO.out _ w5 O5.out.reads)
      obtain ⟨t, ht⟩ : ∃ t, Pr.wayB y = t := ⟨_, rfl⟩
      rw [ht] at W5
      have HTT := Lib.hid ht
      clear ht
      go_wp2_with fail
      refine W5.out.mono ?_
      rintro e w6 ⟨rfl, b6⟩
      have B6 := Lib.hid (B5.out.trans (b6.mono B5.out.size))
      have O6 := Lib.hid (O5.out.below b6)
      clear b6
      cases t with
      | false =>
        have HF := Lib.hid (HC1.out HBB.out HTT.out)
        go_wp2_with fail
        go_ret2
        exact ⟨by rw [HF.out]; rfl, B6.out⟩
      | true =>
        have HF := Lib.hid (HC2.out HBB.out HTT.out)
        obtain ⟨z, hz⟩ : ∃ z : ByteArray, (⟨(flat y).toArray⟩ : ByteArray) = z := ⟨_, rfl⟩
        have Y6 := Lib.hid (HB.out _ w6 O6.out.reads)
        rw [hz] at HT HF
        clear hz
        go_wp2_with fail
        refine Y6.out.mono ?_
        rintro e w7 ⟨v7, rfl, o7, b7⟩
        have hcv := HT.out _ _ _ o7
        have B7 := Lib.hid (B6.out.trans (b7.mono B6.out.size))
        obtain ⟨A7, c7, rfl⟩ := o7.slice
        obtain ⟨n7, hn7⟩ : ∃ n7, (flat y).length = n7 := ⟨_, rfl⟩
        rw [hn7] at hcv
        rw [hn7]
        clear o7 b7 hn7
        go_wp2_with fail
        go_ret2
        exact ⟨by rw [HF.out]; rfl, B7.out⟩
end Go.Proofs.YtogjhpcjjmcjfaaGreatDoor
