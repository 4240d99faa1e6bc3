/-
  package canon: what no element can have (wrong), a question asked of each node, Right.
-/
import Derived.Test.YtbkfmbkamocllaaDoorCnI
import Derived.Test.YtbkfmbkamocllaaDoorCnA
namespace Go.Proofs.YtbkfmbkamocllaaDoor
open Go.RowKit Tk Tr Cn

/-- A node as a value, its attributes at u. -/
abbrev agC (x : Nd) (u : Value) : Value := .agg #[.int .i64 x.1, .int .i64 x.2.1, .string (bts x.2.2.1), .string (bts x.2.2.2.1), u, .string (bts x.2.2.2.2.2)]
/-- No text of it is greater than memory bears. -/
def SzN (x : Nd) : Prop := x.2.2.1.length ≤ 140737488355328 ∧ x.2.2.2.1.length ≤ 140737488355328 ∧ x.2.2.2.2.2.length ≤ 140737488355328 ∧ x.2.2.2.2.1.length ≤ 1000000000 ∧ ∀ a ∈ x.2.2.2.2.1, a.1.length ≤ 140737488355328 ∧ a.2.length ≤ 140737488355328
set_option maxHeartbeats 4000000 in
set_option maxRecDepth 100000 in
theorem wrong_any (x : Nd) (u : Value) (w : World) (hT : Tabs w) (hu : ReadC w u x.2.2.2.2.1) (hs : SzN x) :
    Calls Tryd.prog 17 #[agC x u] w fun e w' => e = .returned (.bool (!goodN x)) ∧ Below w.heap.size w w' := by
  obtain ⟨s2, s3, s5, sl, sa⟩ := hs
  have HU := Lib.hid hu
  have HT := Lib.hid hT
  have HG : Hid (goodN x = (nameT x.2.2.1 && Tx.valid x.2.2.2.2.2 && Tx.valid x.2.2.2.1 && apartB x.2.2.2.2.1)) := rfl
  obtain ⟨Y, hY⟩ : ∃ Y, w.heap.size = Y := ⟨_, rfl⟩
  obtain ⟨W1, hW1⟩ : ∃ W1, w.alloc (.cells #[.int .i64 x.1, .int .i64 x.2.1, .string (bts x.2.2.1), .string (bts x.2.2.2.1), u, .string (bts x.2.2.2.2.2)] 32) = W1 := ⟨_, rfl⟩
  have HB : Hid (Below w.heap.size w W1) := by rw [← hW1]; exact (Below.refl _ _).alloc (Nat.le_refl _) _
  have hk : Bk W1 Y 32 #[.int .i64 x.1, .int .i64 x.2.1, .string (bts x.2.2.1), .string (bts x.2.2.2.1), u, .string (bts x.2.2.2.2.2)] := by rw [← hW1, ← hY]; exact Bk.new _ _ _
  have y2 : W1.cell? ⟨Y, 2, none⟩ = some (.string (bts x.2.2.1)) := hk.cell 2
  have y3 : W1.cell? ⟨Y, 3, none⟩ = some (.string (bts x.2.2.2.1)) := hk.cell 3
  have y4 : W1.cell? ⟨Y, 4, none⟩ = some u := hk.cell 4
  have y5 : W1.cell? ⟨Y, 5, none⟩ = some (.string (bts x.2.2.2.2.2)) := hk.cell 5
  have HYL : Hid (Y < W1.heap.size) := hk.lt
  have HNA := Lib.hid (name_any (bts x.2.2.1) W1 (by rw [bts_size]; exact s2))
  have HV5 := Lib.hid (fun (W : World) (h : Below W1.heap.size W1 W) => valid_any (bts x.2.2.2.2.2) W (HT.out.below (HB.out.trans (h.mono HB.out.size))) (by rw [bts_size]; exact s5))
  have HV3 := Lib.hid (fun (W : World) (h : Below W1.heap.size W1 W) => valid_any (bts x.2.2.2.1) W (HT.out.below (HB.out.trans (h.mono HB.out.size))) (by rw [bts_size]; exact s3))
  have HAP := Lib.hid (fun (W : World) (h : Below W1.heap.size W1 W) => apart_any u x.2.2.2.2.1 W (HT.out.below (HB.out.trans (h.mono HB.out.size))) (HU.out.below (HB.out.trans (h.mono HB.out.size))) sl sa)
  have HL := Lib.hid (fun (W : World) (h : Below W1.heap.size W1 W) i => h.cell (p := ⟨Y, i, none⟩) HYL.out)
  have Y2 := Lib.hid y2
  have Y3 := Lib.hid y3
  have Y4 := Lib.hid y4
  have Y5 := Lib.hid y5
  have HW1 := Lib.hid hW1
  have HYE := Lib.hid hY
  obtain ⟨A, cap, rfl, -⟩ := hu
  obtain ⟨n, hn⟩ : ∃ n, x.2.2.2.2.1.length = n := ⟨_, rfl⟩
  rw [hn] at HAP HW1 Y4
  obtain ⟨a0, h0⟩ : ∃ a : Int, x.1 = a := ⟨_, rfl⟩
  obtain ⟨a1, h1⟩ : ∃ a : Int, x.2.1 = a := ⟨_, rfl⟩
  obtain ⟨a2, h2⟩ : ∃ a, bts x.2.2.1 = a := ⟨_, rfl⟩
  obtain ⟨a3, h3⟩ : ∃ a, bts x.2.2.2.1 = a := ⟨_, rfl⟩
  obtain ⟨a5, h5⟩ : ∃ a, bts x.2.2.2.2.2 = a := ⟨_, rfl⟩
  have e2 : a2.data.toList = x.2.2.1 := by rw [← h2]
  have e3 : a3.data.toList = x.2.2.2.1 := by rw [← h3]
  have e5 : a5.data.toList = x.2.2.2.2.2 := by rw [← h5]
  unfold agC
  rw [h0, h1, h2, h3, h5, hn]
  rw [h0, h1, h2, h3, h5] at HW1
  rw [h2] at Y2 HNA
  rw [h3] at Y3 HV3
  rw [h5] at Y5 HV5
  rw [e2] at HNA
  rw [e3] at HV3
  rw [e5] at HV5
  have z2 := Y2.out
  clear h0 h1 h2 h3 h5 e2 e3 e5 s2 s3 s5 sl sa hY hW1 hk y2 y3 y4 y5 hn hT
  cases c2 : nameT x.2.2.1 with
  | false =>
    rw [c2] at HNA
    have HR : Hid ((!goodN x) = true) := by unfold Hid; rw [HG.out, c2]; rfl
    clear c2
    go_enter Tryd.func17, Tryd.ntmps17
    go_upto_region 1 with fail
    rw [HW1.out, HYE.out]
    go_wp2_with (go_at_call 31; refine HNA.out.mono ?_; rintro e w2 ⟨rfl, b2⟩)
    go_ret
    exact ⟨by rw [HR.out]; rfl, HB.out.trans (b2.mono HB.out.size)⟩
  | true =>
    rw [c2] at HNA
    cases c5 : Tx.valid x.2.2.2.2.2 with
    | false =>
      rw [c5] at HV5
      have HR : Hid ((!goodN x) = true) := by unfold Hid; rw [HG.out, c5]; simp
      clear c2 c5
      go_enter Tryd.func17, Tryd.ntmps17
      go_upto_region 1 with fail
      rw [HW1.out, HYE.out]
      go_wp2_with (first | (go_at_call 31; refine HNA.out.mono ?_; rintro e w2 ⟨rfl, b2⟩; have r5 := (HL.out _ b2 5).trans Y5.out) | (go_at_call 32; refine (HV5.out _ b2).mono ?_; rintro e w3 ⟨rfl, b3⟩))
      go_ret
      exact ⟨by rw [HR.out]; rfl, HB.out.trans ((b2.trans (b3.mono b2.size)).mono HB.out.size)⟩
    | true =>
      rw [c5] at HV5
      cases c3 : Tx.valid x.2.2.2.1 with
      | false =>
        rw [c3] at HV3
        have HR : Hid ((!goodN x) = true) := by unfold Hid; rw [HG.out, c3]; simp
        clear c2 c5 c3
        go_enter Tryd.func17, Tryd.ntmps17
        go_upto_region 1 with fail
        rw [HW1.out, HYE.out]
        go_wp2_with (first | (go_at_call 31; refine HNA.out.mono ?_; rintro e w2 ⟨rfl, b2⟩; have r5 := (HL.out _ b2 5).trans Y5.out) | (go_at_call 32; with_reducible refine (HV5.out _ b2).mono ?_; rintro e w3 ⟨rfl, b3⟩; have b23 := b2.trans (b3.mono b2.size); have r3 := (HL.out _ b23 3).trans Y3.out) | (go_at_call 32; with_reducible refine (HV3.out _ b23).mono ?_; rintro e w4 ⟨rfl, b4⟩; have b24 := b23.trans (b4.mono b23.size); have r4 := (HL.out _ b24 4).trans Y4.out))
        go_ret
        exact ⟨by rw [HR.out]; rfl, HB.out.trans (b24.mono HB.out.size)⟩
      | true =>
        rw [c3] at HV3
        have HR : Hid ((!goodN x) = !apartB x.2.2.2.2.1) := by unfold Hid; rw [HG.out, c2, c5, c3]; rfl
        clear c2 c5 c3
        cases hq : apartB x.2.2.2.2.1 with
        | false =>
          rw [hq] at HAP HR
          clear hq
          go_enter Tryd.func17, Tryd.ntmps17
          go_upto_region 1 with fail
          rw [HW1.out, HYE.out]
          go_wp2_with (first | (go_at_call 31; refine HNA.out.mono ?_; rintro e w2 ⟨rfl, b2⟩; have r5 := (HL.out _ b2 5).trans Y5.out) | (go_at_call 32; with_reducible refine (HV5.out _ b2).mono ?_; rintro e w3 ⟨rfl, b3⟩; have b23 := b2.trans (b3.mono b2.size); have r3 := (HL.out _ b23 3).trans Y3.out) | (go_at_call 32; with_reducible refine (HV3.out _ b23).mono ?_; rintro e w4 ⟨rfl, b4⟩; have b24 := b23.trans (b4.mono b23.size); have r4 := (HL.out _ b24 4).trans Y4.out) | (go_at_call 33; refine (HAP.out _ b24).mono ?_; rintro e w5 ⟨rfl, b5⟩))
          go_ret
          exact ⟨by rw [HR.out]; rfl, HB.out.trans ((b24.trans (b5.mono b24.size)).mono HB.out.size)⟩
        | true =>
          rw [hq] at HAP HR
          clear hq
          go_enter Tryd.func17, Tryd.ntmps17
          go_upto_region 1 with fail
          rw [HW1.out, HYE.out]
          go_wp2_with (first | (go_at_call 31; refine HNA.out.mono ?_; rintro e w2 ⟨rfl, b2⟩; have r5 := (HL.out _ b2 5).trans Y5.out) | (go_at_call 32; with_reducible refine (HV5.out _ b2).mono ?_; rintro e w3 ⟨rfl, b3⟩; have b23 := b2.trans (b3.mono b2.size); have r3 := (HL.out _ b23 3).trans Y3.out) | (go_at_call 32; with_reducible refine (HV3.out _ b23).mono ?_; rintro e w4 ⟨rfl, b4⟩; have b24 := b23.trans (b4.mono b23.size); have r4 := (HL.out _ b24 4).trans Y4.out) | (go_at_call 33; refine (HAP.out _ b24).mono ?_; rintro e w5 ⟨rfl, b5⟩))
          go_ret
          exact ⟨by rw [HR.out]; rfl, HB.out.trans ((b24.trans (b5.mono b24.size)).mono HB.out.size)⟩
/-- A question that may be asked of a node. -/
def AskN (w : World) (u : Value) (q : Nd → Bool) : Prop := ∃ (F : FuncId) (cb : Array Value), u = .func (.func F) #[] cb ∧ (∀ args W, (callFunc F args).run Tryd.prog W = .ok (.enter F args) W) ∧
  ∀ (x : Nd) (a : Value) W, Below w.heap.size w W → ReadC W a x.2.2.2.2.1 → SzN x → Calls Tryd.prog F (#[agC x a] ++ cb) W fun e w' => e = .returned (.bool (q x)) ∧ Below W.heap.size W w'
theorem anyN_hit {l : List Nd} {q : Nd → Bool} {k : Nat} {a : Nd} (h : l[k]? = some a) (hq : q a = true) : l.any q = true := List.any_eq_true.2 ⟨a, List.mem_of_getElem? h, hq⟩
theorem anyN_miss {l : List Nd} {q : Nd → Bool} (h : ∀ (j : Nat) (a : Nd), l[j]? = some a → q a = false) : l.any q = false := by
  rw [List.any_eq_false]
  intro a ha
  obtain ⟨j, hj⟩ := List.mem_iff_getElem?.1 ha
  rw [h j a hj]
  simp
set_option maxHeartbeats 1000000 in
theorem indexN_any (v u : Value) (l : List Nd) (q : Nd → Bool) (w : World) (hv : ReadM w v l) (hl : l.length ≤ 1000000) (hs : ∀ x ∈ l, SzN x) (hp : AskN w u q) :
    Calls Tryd.prog 30 #[v, u] w fun e w' => (∃ z : Int, e = .returned (.int .i64 z) ∧ decide (z ≥ 0) = l.any q) ∧ Below w.heap.size w w' := by
  obtain ⟨F, cb, rfl, eg, hp⟩ := hp
  obtain ⟨A, cap, rfl, hcp, hmx, hx⟩ := hv
  have HX := Lib.hid hx
  have HP := Lib.hid hp
  have HS := Lib.hid hs
  have HH := Lib.hid (fun (k : Nat) (a : Nd) (h : l[k]? = some a) (h2 : q a = true) => anyN_hit h h2)
  have HM := Lib.hid (fun (h : ∀ (j : Nat) (a : Nd), l[j]? = some a → q a = false) => anyN_miss h)
  obtain ⟨n, hn⟩ : ∃ n, l.length = n := ⟨_, rfl⟩
  have HN := Lib.hid hn
  rw [hn] at hl HX ⊢
  clear hx hp hs hcp hmx hn
  go_enter Tryd.func30, Tryd.ntmps30
  go_wp2_with fail
  go_loopw [8] (fun i wr => ∃ (k : Nat), k ≤ n ∧ i = .int .i64 k ∧ Hid (∀ (j : Nat) (a : Nd), j < k → l[j]? = some a → q a = false) ∧ Below w.heap.size w wr) (fun i _ => n - (intOf i).toNat)
  case atStart => exact ⟨0, Nat.zero_le _, rfl, Lib.hid (fun j a h => absurd h (Nat.not_lt_zero _)), Below.refl _ _⟩
  case round =>
    obtain ⟨k, hk, rfl, hno, hb⟩ := hrel
    have hsw := hb.size
    by_cases hlt : k < n
    · obtain ⟨ad, rfl, hlb, hc⟩ := HX.out (by omega)
      obtain ⟨x, hxx⟩ : ∃ x, l[k]? = some x := ⟨_, List.getElem?_eq_getElem (by have := HN.out; omega)⟩
      obtain ⟨uv, hat, hua⟩ := hc k x hxx
      obtain ⟨k0, k1, k2, k3, k4, k5⟩ := hat.of (w' := wr) (hb.block _ (by rw [addBlock]; exact hlb))
      have HC := Lib.hid hxx
      have HQ := Lib.hid (HP.out x uv wr hb (hua.below hb) (HS.out x (List.mem_of_getElem? hxx)))
      obtain ⟨UA, ucap, rfl, -⟩ := hua
      unfold agC at HQ
      obtain ⟨un, hun⟩ : ∃ un, x.2.2.2.2.1.length = un := ⟨_, rfl⟩
      obtain ⟨a0, h0⟩ : ∃ a : Int, x.1 = a := ⟨_, rfl⟩
      obtain ⟨a1, h1⟩ : ∃ a : Int, x.2.1 = a := ⟨_, rfl⟩
      obtain ⟨a2, h2⟩ : ∃ a, bts x.2.2.1 = a := ⟨_, rfl⟩
      obtain ⟨a3, h3⟩ : ∃ a, bts x.2.2.2.1 = a := ⟨_, rfl⟩
      obtain ⟨a5, h5⟩ : ∃ a, bts x.2.2.2.2.2 = a := ⟨_, rfl⟩
      rw [h0] at k0
      rw [h1] at k1
      rw [h2] at k2
      rw [h3] at k3
      rw [hun] at k4
      rw [h5] at k5
      rw [h0, h1, h2, h3, h5, hun] at HQ
      clear hc hxx hat hun h0 h1 h2 h3 h5
      go_wp2_with fail
      refine HQ.out.mono ?_
      rintro e w2 ⟨rfl, b2⟩
      have hb2 : Below w.heap.size w w2 := hb.trans (b2.mono hsw)
      clear k0 k1 k2 k3 k4 k5
      cases hq : q x with
      | true =>
        have hf := Lib.hid (HH.out k x HC.out hq)
        clear hq b2
        go_wp2_with fail
        go_ret
        exact ⟨⟨_, rfl, by rw [hf.out]; simp⟩, hb2⟩
      | false =>
        have hno2 : Hid (∀ (j : Nat) (a : Nd), j < k + 1 → l[j]? = some a → q a = false) := Lib.hid (fun j a hj ha => by
          rcases Nat.lt_or_ge j k with h | h
          · exact hno.out j a h ha
          · obtain rfl : j = k := by omega
            rw [HC.out] at ha
            cases ha
            exact hq)
        clear hq b2
        go_wp2_with fail
        go_roundw
        case rel => exact ⟨k + 1, by omega, by go_num, hno2, hb2⟩
        case measure => simp [intOf]; omega
    · have hf := Lib.hid (HM.out (fun j a ha => hno.out j a (by have := (List.getElem?_eq_some_iff.1 ha).1; have := HN.out; omega) ha))
      go_wp2_with fail
      go_ret
      exact ⟨⟨_, rfl, by rw [hf.out]; simp⟩, hb⟩
set_option maxHeartbeats 400000 in
theorem containsN_any (v u : Value) (l : List Nd) (q : Nd → Bool) (w : World) (hv : ReadM w v l) (hl : l.length ≤ 1000000) (hs : ∀ x ∈ l, SzN x) (hp : AskN w u q) :
    Calls Tryd.prog 16 #[v, u] w fun e w' => e = .returned (.bool (l.any q)) ∧ Below w.heap.size w w' := by
  have HI := Lib.hid (indexN_any v u l q w hv hl hs hp)
  obtain ⟨A, cap, rfl, hx⟩ := hv
  obtain ⟨F, cb, rfl, eg, hp⟩ := hp
  obtain ⟨r, hr⟩ : ∃ r, l.any q = r := ⟨_, rfl⟩
  rw [hr] at HI ⊢
  clear hx hp hr eg
  go_enter Tryd.func16, Tryd.ntmps16
  go_wp2_with (go_at_call 30; refine HI.out.mono ?_; rintro e w1 ⟨⟨z, rfl, hz⟩, hb⟩)
  go_ret
  exact ⟨rfl, hb⟩
theorem all_any (ns : List Nd) : ns.all goodN = !ns.any (fun x => !goodN x) := by
  rw [List.not_any_eq_all_not]
  congr 1
  funext x
  rw [Bool.not_not]
set_option maxHeartbeats 2000000 in
/-- Right -/
theorem right_any (v : Value) (ns : List Nd) (w : World) (hT : Tabs w) (hv : ReadM w v ns) (hl : ns.length ≤ 1000000) (hs : ∀ x ∈ ns, SzN x) :
    Calls Tryd.prog 9 #[v] w fun e w' => e = .returned (.bool (rightB ns)) ∧ Below w.heap.size w w' := by
  have HR0 : Hid (rightB ns = (decide (0 < ns.length) && decide (ns.length ≤ 1000) && nestB ns && !ns.any (fun x => !goodN x))) := by unfold Hid rightB; rw [all_any]
  have eg : ∀ args w, (callFunc 17 args).run Tryd.prog w = .ok (.enter 17 args) w := Go.Proofs.enters_of Tryd.func17 (by kernel_rfl) rfl
  have HNE := Lib.hid (fun (h0 : 0 < ns.length) => nested_any v ns w hv h0 hl)
  have HCO := Lib.hid (fun (W : World) (h : Below w.heap.size w W) => containsN_any v (.func (.func 17) #[] #[]) ns (fun x => !goodN x) W (hv.below h) hl hs ⟨_, _, rfl, eg, fun x a W2 hW2 ha hx => wrong_any x a W2 ((hT.below h).below hW2) ha hx⟩)
  obtain ⟨A, cap, rfl, -⟩ := hv
  obtain ⟨n, hn⟩ : ∃ n, ns.length = n := ⟨_, rfl⟩
  rw [hn] at HR0 HNE HCO hl ⊢
  clear hn eg hs hT
  by_cases h0 : 0 < n
  · have g0 : decide ((n : Int) > 0) = true := decide_eq_true (by omega)
    by_cases h1 : n ≤ 1000
    · have g1 : decide ((n : Int) ≤ 1000) = true := decide_eq_true (by omega)
      have HN2 := Lib.hid (HNE.out h0)
      cases hq : nestB ns with
      | false =>
        rw [hq] at HN2
        have HR : Hid (rightB ns = false) := by unfold Hid; rw [HR0.out, hq]; simp
        clear hq
        go_enter Tryd.func9, Tryd.ntmps9
        go_wp2_with (go_at_call 15; refine HN2.out.mono ?_; rintro e w1 ⟨rfl, b1⟩)
        go_ret
        exact ⟨by rw [HR.out]; rfl, b1⟩
      | true =>
        rw [hq] at HN2
        cases hz : ns.any (fun x => !goodN x) with
        | true =>
          rw [hz] at HCO
          have HR : Hid (rightB ns = false) := by unfold Hid; rw [HR0.out, hz]; simp
          clear hq hz
          go_enter Tryd.func9, Tryd.ntmps9
          go_wp2_with (first | (go_at_call 15; refine HN2.out.mono ?_; rintro e w1 ⟨rfl, b1⟩) | (go_at_call 16; refine (HCO.out _ b1).mono ?_; rintro e w2 ⟨rfl, b2⟩))
          go_ret
          exact ⟨by rw [HR.out]; rfl, b1.trans (b2.mono b1.size)⟩
        | false =>
          rw [hz] at HCO
          have HR : Hid (rightB ns = true) := by unfold Hid; rw [HR0.out, hz, hq, decide_eq_true h0, decide_eq_true h1]; rfl
          clear hq hz
          go_enter Tryd.func9, Tryd.ntmps9
          go_wp2_with (first | (go_at_call 15; refine HN2.out.mono ?_; rintro e w1 ⟨rfl, b1⟩) | (go_at_call 16; refine (HCO.out _ b1).mono ?_; rintro e w2 ⟨rfl, b2⟩))
          go_ret
          exact ⟨by rw [HR.out]; rfl, b1.trans (b2.mono b1.size)⟩
    · have g1 : decide ((n : Int) ≤ 1000) = false := decide_eq_false (by omega)
      have HR : Hid (rightB ns = false) := by unfold Hid; rw [HR0.out, decide_eq_false h1]; simp
      go_enter Tryd.func9, Tryd.ntmps9
      go_wp2_with fail
      go_ret
      exact ⟨by rw [HR.out]; rfl, Below.refl _ _⟩
  · have g0 : decide ((n : Int) > 0) = false := decide_eq_false (by omega)
    have HR : Hid (rightB ns = false) := by unfold Hid; rw [HR0.out, decide_eq_false h0]; rfl
    go_enter Tryd.func9, Tryd.ntmps9
    go_wp2_with fail
    go_ret
    exact ⟨by rw [HR.out]; rfl, Below.refl _ _⟩
end Go.Proofs.YtbkfmbkamocllaaDoor
