import Derived.Test.YtfbdnaclkfmiaaaGreatDoorG14
import Derived.Test.YtfbdnaclkfmiaaaGreatDoorG12
import Derived.Test.YtfbdnaclkfmiaaaGreatDoorG09
/- what is reached of it -/
namespace Go.Proofs.YtfbdnaclkfmiaaaGreatDoor
open Go.RowKit Tx
/-- a part of a slice -/
def slv (g cap : Nat) (x : Nat × Nat) : Value := .slice (some ⟨g, x.1, none⟩) (x.2 - x.1) (cap - x.1)
def slvs (g cap : Nat) (l : List (Nat × Nat)) : List Value := l.map (slv g cap)
theorem slvs_snoc (g cap : Nat) (l : List (Nat × Nat)) (x : Nat × Nat) : slvs g cap (l ++ [x]) = slvs g cap l ++ [slv g cap x] := by simp [slvs]
theorem slvs_get {g cap : Nat} {l : List (Nat × Nat)} {j : Nat} {x : Nat × Nat} (h : l[j]? = some x) : (slvs g cap l)[j]? = some (slv g cap x) := by simp [slvs, h]
attribute [irreducible] slvs
theorem infoSS : (Tryz.prog.info? 23).map (fun i => (i.zero, i.size, i.bytes)) = some (some (.slice none 0 0), 1, 24) := by kernel_rfl
theorem infoSB : (Tryz.prog.info? 50).map (fun i => (i.zero, i.size, i.bytes)) = some (some (.slice none 0 0), 1, 24) := by kernel_rfl
theorem drop_bit {bs : List Bool} {k : Nat} {b : Bool} (h : bs[k]? = some b) : bs.drop k = b :: bs.drop (k + 1) := by
  obtain ⟨hk, he⟩ := List.getElem?_eq_some_iff.1 h
  rw [List.drop_eq_getElem_cons hk, he]
/-- how the gathering stands: R are told, the open row goes from o to k -/
def GStand (bs : List Bool) (R : List (Nat × Nat)) (o k : Nat) : Prop := R.length ≤ k ∧ ivs 0 0 bs = R ++ ivs o k (bs.drop k)
theorem GStand.start (bs : List Bool) : GStand bs [] 0 0 := ⟨Nat.le_refl _, rfl⟩
theorem GStand.cut {bs : List Bool} {R : List (Nat × Nat)} {o k : Nat} (h : GStand bs R o k) (hb : bs[k]? = some true) : GStand bs (R ++ [(o, k)]) k (k + 1) := by
  refine ⟨by rw [List.length_append, List.length_singleton]; have := h.1; omega, ?_⟩
  rw [h.2, drop_bit hb]
  show R ++ ((o, k) :: ivs k (k + 1) _) = _
  simp
theorem GStand.on {bs : List Bool} {R : List (Nat × Nat)} {o k : Nat} (h : GStand bs R o k) (hb : bs[k]? = some false) : GStand bs R o (k + 1) := by
  refine ⟨by have := h.1; omega, ?_⟩
  rw [h.2, drop_bit hb]
  rfl
theorem GStand.done {bs : List Bool} {R : List (Nat × Nat)} {o k : Nat} (h : GStand bs R o k) (hk : bs.length ≤ k) : ivs 0 0 bs = R ++ [(o, k)] := by
  rw [h.2, List.drop_eq_nil_of_le hk]
  rfl
/-- A slice of slices, each a part of the one at g. -/
def Rows2 (C : Nat) (w : World) (v : Value) (g cap : Nat) (l : List (Nat × Nat)) : Prop :=
  ∃ g' cap', v = .slice (some ⟨g', 0, none⟩) l.length cap' ∧ l.length ≤ cap' ∧ C ≤ g' ∧ g' < w.heap.size ∧ ∀ j x, l[j]? = some x → w.cell? ⟨g', j, none⟩ = some (slv g cap x)
theorem Rows2.of {C : Nat} {w : World} {v : Value} {g cap : Nat} {l : List (Nat × Nat)} {e : TypeId} (h : w.ownsRow C e 1 v l.length (slvs g cap l)) (hl : 0 < l.length) : Rows2 C w v g cap l := by
  rcases h.2 with ⟨_, h0⟩ | ⟨g', cap', cur, rfl, hC, hg, hc, _⟩
  · omega
  · refine ⟨g', cap', rfl, hc, hC, lt_of_block hg, fun j x hj => ?_⟩
    have := h.cells (g := g') rfl j _ (slvs_get hj)
    rwa [add_at, Nat.zero_add] at this
theorem Rows2.keep {C : Nat} {w w' : World} {v : Value} {g cap : Nat} {l : List (Nat × Nat)} (h : Rows2 C w v g cap l) (hb : Below w.heap.size w w') : Rows2 C w' v g cap l := by
  obtain ⟨g', cap', rfl, h1, h2, h3, h4⟩ := h
  exact ⟨g', cap', rfl, h1, h2, Nat.lt_of_lt_of_le h3 hb.size, fun j x hj => by rw [hb.cell (p := ⟨g', j, none⟩) h3]; exact h4 j x hj⟩
theorem grown_btw {b C : Nat} {w w1 : World} (h : w.grownBy w1 (some b)) (hC : C ≤ w.heap.size) (hb : b < C) : Btw b C w w1 :=
  ⟨⟨h.os, h.tape, h.output, h.size, fun g hg => h.block g (by omega) (by simp; omega)⟩, fun g h1 h2 => h.block g (by omega) (by simp; omega)⟩
theorem grown_self (w : World) (r : Option Nat) : w.grownBy w r := ⟨rfl, rfl, rfl, Nat.le_refl _, fun _ _ _ => rfl⟩
theorem grown_set {w : World} {b o : Nat} (u : Value) : w.grownBy (w.setCell ⟨b, o, none⟩ u) (some b) :=
  ⟨rfl, rfl, rfl, by simp [World.setCell], fun k _ hk => Below.heap_setCell _ _ _ _ (fun e => hk (by simp [e]))⟩

set_option maxHeartbeats 4000000 in
set_option maxRecDepth 100000 in
/-- fold.gather at fold.rowsOf$1: Inv is what the function keeps, in block b. -/
theorem gatherR_any (g cap n b C : Nat) (xs : List ByteArray) (bs : List Bool) (Inv : Nat → World → Prop) (w : World) (hC : C ≤ w.heap.size) (hbC : b < C) (hg : g < C) (hgb : g ≠ b)
    (hx : ∀ j x, xs[j]? = some x → w.cell? ⟨g, j, none⟩ = some (.string x)) (hn : xs.length = n) (hbs : bs.length = n) (hcap : n ≤ cap) (hcap2 : cap ≤ maxLen) (hn2 : n ≤ 1000000000000)
    (hinv : Inv 0 w) (hkeep : ∀ k W W', W'.heap[b]? = W.heap[b]? → Inv k W → Inv k W')
    (hcall : ∀ k x B W, xs[k]? = some x → bs[k]? = some B → Inv k W → C ≤ W.heap.size → Btw b C w W → Calls Tryz.prog 190 #[.string x, .pointer (some ⟨b, 0, none⟩)] W fun e W' => e = .returned (.bool B) ∧ Inv (k + 1) W' ∧ W.grownBy W' (some b)) :
    Calls Tryz.prog 188 #[.slice (some ⟨g, 0, none⟩) n cap, .func (.func 190) #[] #[.pointer (some ⟨b, 0, none⟩)]] w fun e w' => ∃ v, e = .returned v ∧ Rows2 C w' v g cap (ivs 0 0 bs) ∧ Inv n w' ∧ Btw b C w w' := by
  obtain ⟨i0, hi, hz0, hz1, hz2⟩ := info_parts infoSS
  unfold maxLen at hcap2
  have HX := Lib.hid hx
  have HLn := Lib.hid (fun (k : Nat) (h : k < n) => (⟨xs[k], List.getElem?_eq_getElem (by omega)⟩ : ∃ x, xs[k]? = some x))
  have HBn := Lib.hid (fun (k : Nat) (h : k < n) => (⟨bs[k], List.getElem?_eq_getElem (by omega)⟩ : ∃ x, bs[k]? = some x))
  have HK := Lib.hid hkeep
  have HC := Lib.hid hcall
  have HI := Lib.hid hinv
  have HN := Lib.hid hbs
  clear hx hkeep hcall hinv hn hbs
  go_enter Tryz.func188, Tryz.ntmps188
  go_wp2_with fail
  go_loopw [5, 6, 11] (fun rv ov at_ wr => ∃ (k o : Nat) (R : List (Nat × Nat)) (v : Value), rv = v ∧ ov = .int .i64 o ∧ at_ = .int .i64 k ∧ o ≤ k ∧ k ≤ n ∧ (o = 0 ∨ o < n) ∧ Hid (GStand bs R o k) ∧ Hid (wr.ownsRow C 23 1 v R.length (slvs g cap R)) ∧ Hid (Inv k wr) ∧ Btw b C w wr) (fun _ _ at_ _ => n - (intOf at_).toNat)
  case atStart => exact ⟨0, 0, [], _, rfl, rfl, rfl, Nat.le_refl _, Nat.zero_le _, .inl rfl, GStand.start _, by unfold Hid; rw [show slvs g cap [] = [] from by unfold slvs; rfl]; exact World.ownsRow_nil _ _ _ _, HI, Btw.refl _ _ _⟩
  case round =>
    obtain ⟨k, o, R, rv, hrv, rfl, rfl, hok, hk, ho0, hst, hown, hiv, ht⟩ := hrel
    have hrv2 := hrv.symm
    subst hrv2
    have hsw := ht.below.size
    have hCr : C ≤ wr.heap.size := by omega
    have hRl : R.length ≤ 1000000000000 := by have := hst.out.1; omega
    have HRL := Lib.hid hRl
    clear hRl
    by_cases hlt : k < n
    · obtain ⟨x, hx⟩ := HLn.out k hlt
      obtain ⟨B, hB⟩ := HBn.out k hlt
      have c0 := HX.out k x hx
      rw [← World.cell?_of_block (w := w) (w' := wr) (a := ⟨g, k, none⟩) (ht.keeps (g := g) hgb hg)] at c0
      have HCk := Lib.hid (HC.out k x B wr hx hB hiv.out hCr ht)
      cases B with
      | true =>
        have HS := Lib.hid (hst.out.cut hB)
        clear hx hB
        go_wp2_with fail
        refine HCk.out.mono ?_
        rintro e w1 ⟨rfl, hiv1, hg1⟩
        have hC1 : C ≤ w1.heap.size := by have := hg1.size; omega
        have hown1 := hown.out.kept hg1 (by
          cases hob : rv.ownBlock with
          | none => exact .inl rfl
          | some j => exact .inr (fun e => by have := (World.ownsRow.lt hown.out j hob).1; injection e with e; omega))
        have HO1 := Lib.hid hown1
        have HV1 := Lib.hid hiv1
        have ht1 := ht.trans (grown_btw hg1 hCr hbC)
        clear hown1 hiv1
        go_wp2_with (at_builtin; refine push_one Tryz.underlying196 hi hz0 hz1 hz2 rfl rfl _ _ rfl C rv R.length (slvs g cap R) _ w1 rfl HO1.out rfl rfl (by have := HRL.out; omega) HRL.out hC1 ?_)
        intro v' w2 h1 h2
        have R1 : Hid (w2.ownsRow C 23 1 v' (R ++ [(o, k)]).length (slvs g cap (R ++ [(o, k)]))) := by
          unfold Hid
          rw [slvs_snoc, List.length_append, List.length_singleton]
          exact h1
        have HV2 := Lib.hid (HK.out (k + 1) w1 w2 (h2.block b hbC) HV1.out)
        clear h1
        go_wp2_with fail
        go_roundw
        case rel => exact ⟨k + 1, k, _, _, rfl, rfl, by go_num, by omega, by omega, .inr hlt, HS, R1, HV2, ht1.trans (Btw.of h2 (by omega) (Nat.le_refl _))⟩
        case measure => simp [intOf]; omega
      | false =>
        have HS := Lib.hid (hst.out.on hB)
        clear hx hB
        go_wp2_with fail
        refine HCk.out.mono ?_
        rintro e w1 ⟨rfl, hiv1, hg1⟩
        have hown1 := hown.out.kept hg1 (by
          cases hob : rv.ownBlock with
          | none => exact .inl rfl
          | some j => exact .inr (fun e => by have := (World.ownsRow.lt hown.out j hob).1; injection e with e; omega))
        have HO1 := Lib.hid hown1
        have HV1 := Lib.hid hiv1
        have ht1 := ht.trans (grown_btw hg1 hCr hbC)
        clear hown1 hiv1
        go_wp2_with fail
        go_roundw
        case rel => exact ⟨k + 1, o, R, _, rfl, rfl, by go_num, by omega, by omega, ho0, HS, HO1, HV1, ht1⟩
        case measure => simp [intOf]; omega
    · obtain rfl : k = n := by omega
      have HA := Lib.hid (hst.out.done (Nat.le_of_eq HN.out))
      by_cases hco : cap = o
      · obtain rfl : o = 0 := by omega
        obtain rfl : k = 0 := by omega
        subst hco
        go_wp2_with (at_builtin; refine push_one Tryz.underlying196 hi hz0 hz1 hz2 rfl rfl _ _ rfl C rv R.length (slvs g 0 R) _ wr rfl hown.out rfl rfl (by have := HRL.out; omega) HRL.out hCr ?_)
        intro v' w2 h1 h2
        have R1 : Hid (Rows2 C w2 v' g 0 (ivs 0 0 bs)) := by
          unfold Hid
          rw [HA.out]
          refine Rows2.of (e := 23) ?_ (by simp)
          rw [slvs_snoc, List.length_append, List.length_singleton]
          exact h1
        clear h1
        go_wp2_with fail
        go_ret
        exact ⟨_, rfl, R1.out, HK.out _ wr w2 (h2.block b hbC) hiv.out, ht.trans (Btw.of h2 (by omega) (Nat.le_refl _))⟩
      · go_wp2_with (at_builtin; refine push_one Tryz.underlying196 hi hz0 hz1 hz2 rfl rfl _ _ rfl C rv R.length (slvs g cap R) _ wr rfl hown.out rfl rfl (by have := HRL.out; omega) HRL.out hCr ?_)
        intro v' w2 h1 h2
        have R1 : Hid (Rows2 C w2 v' g cap (ivs 0 0 bs)) := by
          unfold Hid
          rw [HA.out]
          refine Rows2.of (e := 23) ?_ (by simp)
          rw [slvs_snoc, List.length_append, List.length_singleton]
          exact h1
        clear h1
        go_wp2_with fail
        go_ret
        exact ⟨_, rfl, R1.out, HK.out _ wr w2 (h2.block b hbC) hiv.out, ht.trans (Btw.of h2 (by omega) (Nat.le_refl _))⟩

set_option maxHeartbeats 4000000 in
set_option maxRecDepth 100000 in
/-- fold.gather at fold.Split$1: Inv is what the function keeps, in block b. -/
theorem gatherB_any (g cap n a b C : Nat) (xs : List UInt8) (bs : List Bool) (Inv : Nat → World → Prop) (w : World) (hC : C ≤ w.heap.size) (hbC : b < C) (hg : g < C) (hgb : g ≠ b)
    (hx : ∀ j x, xs[j]? = some x → w.cell? ⟨g, j, none⟩ = some (.int .u8 x.toNat)) (hn : xs.length = n) (hbs : bs.length = n) (hcap : n ≤ cap) (hcap2 : cap ≤ maxLen) (hn2 : n ≤ 1000000000000)
    (hinv : Inv 0 w) (hkeep : ∀ k W W', W'.heap[b]? = W.heap[b]? → Inv k W → Inv k W')
    (hcall : ∀ k x B W, xs[k]? = some x → bs[k]? = some B → Inv k W → C ≤ W.heap.size → Btw b C w W → Calls Tryz.prog 112 #[.int .u8 x.toNat, .pointer (some ⟨a, 0, none⟩), .pointer (some ⟨b, 0, none⟩)] W fun e W' => e = .returned (.bool B) ∧ Inv (k + 1) W' ∧ W.grownBy W' (some b)) :
    Calls Tryz.prog 111 #[.slice (some ⟨g, 0, none⟩) n cap, .func (.func 112) #[] #[.pointer (some ⟨a, 0, none⟩), .pointer (some ⟨b, 0, none⟩)]] w fun e w' => ∃ v, e = .returned v ∧ Rows2 C w' v g cap (ivs 0 0 bs) ∧ Inv n w' ∧ Btw b C w w' := by
  obtain ⟨i0, hi, hz0, hz1, hz2⟩ := info_parts infoSB
  unfold maxLen at hcap2
  have HX := Lib.hid hx
  have HLn := Lib.hid (fun (k : Nat) (h : k < n) => (⟨xs[k], List.getElem?_eq_getElem (by omega)⟩ : ∃ x, xs[k]? = some x))
  have HBn := Lib.hid (fun (k : Nat) (h : k < n) => (⟨bs[k], List.getElem?_eq_getElem (by omega)⟩ : ∃ x, bs[k]? = some x))
  have HK := Lib.hid hkeep
  have HC := Lib.hid hcall
  have HI := Lib.hid hinv
  have HN := Lib.hid hbs
  clear hx hkeep hcall hinv hn hbs
  go_enter Tryz.func111, Tryz.ntmps111
  go_wp2_with fail
  go_loopw [5, 6, 11] (fun rv ov at_ wr => ∃ (k o : Nat) (R : List (Nat × Nat)) (v : Value), rv = v ∧ ov = .int .i64 o ∧ at_ = .int .i64 k ∧ o ≤ k ∧ k ≤ n ∧ (o = 0 ∨ o < n) ∧ Hid (GStand bs R o k) ∧ Hid (wr.ownsRow C 50 1 v R.length (slvs g cap R)) ∧ Hid (Inv k wr) ∧ Btw b C w wr) (fun _ _ at_ _ => n - (intOf at_).toNat)
  case atStart => exact ⟨0, 0, [], _, rfl, rfl, rfl, Nat.le_refl _, Nat.zero_le _, .inl rfl, GStand.start _, by unfold Hid; rw [show slvs g cap [] = [] from by unfold slvs; rfl]; exact World.ownsRow_nil _ _ _ _, HI, Btw.refl _ _ _⟩
  case round =>
    obtain ⟨k, o, R, rv, hrv, rfl, rfl, hok, hk, ho0, hst, hown, hiv, ht⟩ := hrel
    have hrv2 := hrv.symm
    subst hrv2
    have hsw := ht.below.size
    have hCr : C ≤ wr.heap.size := by omega
    have hRl : R.length ≤ 1000000000000 := by have := hst.out.1; omega
    have HRL := Lib.hid hRl
    clear hRl
    by_cases hlt : k < n
    · obtain ⟨x, hx⟩ := HLn.out k hlt
      obtain ⟨B, hB⟩ := HBn.out k hlt
      have c0 := HX.out k x hx
      rw [← World.cell?_of_block (w := w) (w' := wr) (a := ⟨g, k, none⟩) (ht.keeps (g := g) hgb hg)] at c0
      have hcl := HC.out k x B wr hx hB hiv.out hCr ht
      obtain ⟨z, hz⟩ : ∃ z : Int, (x.toNat : Int) = z := ⟨_, rfl⟩
      rw [hz] at c0 hcl
      have HCk := Lib.hid hcl
      clear hcl hz
      cases B with
      | true =>
        have HS := Lib.hid (hst.out.cut hB)
        clear hx hB
        go_wp2_with fail
        refine HCk.out.mono ?_
        rintro e w1 ⟨rfl, hiv1, hg1⟩
        have hC1 : C ≤ w1.heap.size := by have := hg1.size; omega
        have hown1 := hown.out.kept hg1 (by
          cases hob : rv.ownBlock with
          | none => exact .inl rfl
          | some j => exact .inr (fun e => by have := (World.ownsRow.lt hown.out j hob).1; injection e with e; omega))
        have HO1 := Lib.hid hown1
        have HV1 := Lib.hid hiv1
        have ht1 := ht.trans (grown_btw hg1 hCr hbC)
        clear hown1 hiv1
        go_wp2_with (at_builtin; refine push_one Tryz.underlying132 hi hz0 hz1 hz2 rfl rfl _ _ rfl C rv R.length (slvs g cap R) _ w1 rfl HO1.out rfl rfl (by have := HRL.out; omega) HRL.out hC1 ?_)
        intro v' w2 h1 h2
        have R1 : Hid (w2.ownsRow C 50 1 v' (R ++ [(o, k)]).length (slvs g cap (R ++ [(o, k)]))) := by
          unfold Hid
          rw [slvs_snoc, List.length_append, List.length_singleton]
          exact h1
        have HV2 := Lib.hid (HK.out (k + 1) w1 w2 (h2.block b hbC) HV1.out)
        clear h1
        go_wp2_with fail
        go_roundw
        case rel => exact ⟨k + 1, k, _, _, rfl, rfl, by go_num, by omega, by omega, .inr hlt, HS, R1, HV2, ht1.trans (Btw.of h2 (by omega) (Nat.le_refl _))⟩
        case measure => simp [intOf]; omega
      | false =>
        have HS := Lib.hid (hst.out.on hB)
        clear hx hB
        go_wp2_with fail
        refine HCk.out.mono ?_
        rintro e w1 ⟨rfl, hiv1, hg1⟩
        have hown1 := hown.out.kept hg1 (by
          cases hob : rv.ownBlock with
          | none => exact .inl rfl
          | some j => exact .inr (fun e => by have := (World.ownsRow.lt hown.out j hob).1; injection e with e; omega))
        have HO1 := Lib.hid hown1
        have HV1 := Lib.hid hiv1
        have ht1 := ht.trans (grown_btw hg1 hCr hbC)
        clear hown1 hiv1
        go_wp2_with fail
        go_roundw
        case rel => exact ⟨k + 1, o, R, _, rfl, rfl, by go_num, by omega, by omega, ho0, HS, HO1, HV1, ht1⟩
        case measure => simp [intOf]; omega
    · obtain rfl : k = n := by omega
      have HA := Lib.hid (hst.out.done (Nat.le_of_eq HN.out))
      by_cases hco : cap = o
      · obtain rfl : o = 0 := by omega
        obtain rfl : k = 0 := by omega
        subst hco
        go_wp2_with (at_builtin; refine push_one Tryz.underlying132 hi hz0 hz1 hz2 rfl rfl _ _ rfl C rv R.length (slvs g 0 R) _ wr rfl hown.out rfl rfl (by have := HRL.out; omega) HRL.out hCr ?_)
        intro v' w2 h1 h2
        have R1 : Hid (Rows2 C w2 v' g 0 (ivs 0 0 bs)) := by
          unfold Hid
          rw [HA.out]
          refine Rows2.of (e := 50) ?_ (by simp)
          rw [slvs_snoc, List.length_append, List.length_singleton]
          exact h1
        clear h1
        go_wp2_with fail
        go_ret
        exact ⟨_, rfl, R1.out, HK.out _ wr w2 (h2.block b hbC) hiv.out, ht.trans (Btw.of h2 (by omega) (Nat.le_refl _))⟩
      · go_wp2_with (at_builtin; refine push_one Tryz.underlying132 hi hz0 hz1 hz2 rfl rfl _ _ rfl C rv R.length (slvs g cap R) _ wr rfl hown.out rfl rfl (by have := HRL.out; omega) HRL.out hCr ?_)
        intro v' w2 h1 h2
        have R1 : Hid (Rows2 C w2 v' g cap (ivs 0 0 bs)) := by
          unfold Hid
          rw [HA.out]
          refine Rows2.of (e := 50) ?_ (by simp)
          rw [slvs_snoc, List.length_append, List.length_singleton]
          exact h1
        clear h1
        go_wp2_with fail
        go_ret
        exact ⟨_, rfl, R1.out, HK.out _ wr w2 (h2.block b hbC) hiv.out, ht.trans (Btw.of h2 (by omega) (Nat.le_refl _))⟩
end Go.Proofs.YtfbdnaclkfmiaaaGreatDoor
