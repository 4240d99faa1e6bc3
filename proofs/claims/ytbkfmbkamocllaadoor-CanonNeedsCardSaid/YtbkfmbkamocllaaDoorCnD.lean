/-
  package canon: the attributes of a node with its namespace ahead (said), an attribute told, attributes told one behind the other.
-/
import Derived.Test.YtbkfmbkamocllaaDoorCnC
import Derived.Test.YtbkfmbkamocllaaDoorCnS
import Derived.Test.YtbkfmbkamocllaaDoorTextW
import Derived.Deep.QuietTactic
import Derived.BigQuiet
namespace Go.Proofs.YtbkfmbkamocllaaDoor
open Go.RowKit Tk Tr Cn

/-- The namespace around a node that stands in p. -/
def spA (ns : List Nd) (p : Int) : List UInt8 := if 0 ≤ p then (match ns[p.toNat]? with | some y => y.2.2.2.1 | none => []) else []
theorem RowA.readC {w : World} {u : Value} {l : List Att} (h : RowA w u l) : ReadC w u l := by
  have hr := h.reads
  obtain ⟨A, cap, rfl, _, h1, h2, h3⟩ := h
  obtain ⟨A', cap', e, h4⟩ := hr
  injection e with e1 e2 e3
  subst e1 e3
  exact ⟨A, cap, rfl, h1, ⟨h2, h3⟩, h4⟩
/-- one attribute, written out, and something made behind it -/
theorem one_attr (w : World) (n v : List UInt8) (o : Obj) : ReadC ((w.alloc (.cells #[.string (bts n), .string (bts v)] 29)).alloc o) (.slice (some ⟨w.heap.size, 0, none⟩) 1 1) [(n, v)] := by
  have hk := (Bk.new w 29 #[.string (bts n), .string (bts v)]).alloc o
  refine ⟨_, 1, rfl, Nat.le_refl _, ⟨by decide, fun e => by cases e⟩, fun _ => ⟨_, rfl, by simp; omega, fun i a hi => ?_⟩⟩
  match i, hi with
  | 0, hi =>
    obtain rfl : (n, v) = a := by simpa using hi
    rw [Nat.zero_mul]
    exact ⟨hk.cell 0, hk.cell 1⟩
set_option maxHeartbeats 4000000 in
set_option maxRecDepth 100000 in
theorem said_any (v : Value) (ns : List Nd) (i : Nat) (x : Nd) (w : World) (hv : ReadM w v ns) (hx : ns[i]? = some x) (hp : x.1 < ns.length) (hl : ns.length ≤ 1000000) (ha : x.2.2.2.2.1.length ≤ 1000000) :
    Calls Tryd.prog 23 #[v, .int .i64 i] w fun e w' => ∃ u, e = .returned u ∧ ReadC w' u (allA x (spA ns x.1)) ∧ Below w.heap.size w w' := by
  obtain ⟨A, cap, rfl, hcap, hmax, hc⟩ := hv
  have hi := (List.getElem?_eq_some_iff.1 hx).1
  obtain ⟨ad, rfl, hlb, hcell⟩ := hc (by omega)
  have HX := Lib.hid hcell
  obtain ⟨u, hat, hua⟩ := hcell i x hx
  have HU := Lib.hid hua
  obtain ⟨k0, k1, k2, k3, k4, k5⟩ := hat
  obtain ⟨UA, ucap, rfl, -⟩ := hua
  obtain ⟨un, hun⟩ : ∃ un, x.2.2.2.2.1.length = un := ⟨_, rfl⟩
  have hq := bts_eqC x.2.2.2.1 (spA ns x.1)
  have HAA : Hid (allA x (spA ns x.1) = (if x.2.2.2.1 = spA ns x.1 then [] else [(xmlnsL, x.2.2.2.1)]) ++ x.2.2.2.2.1) := rfl
  have HSP : Hid (spA ns x.1 = if 0 ≤ x.1 then (match ns[x.1.toNat]? with | some y => y.2.2.2.1 | none => []) else []) := rfl
  obtain ⟨n, hn⟩ : ∃ n, ns.length = n := ⟨_, rfl⟩
  have HN := Lib.hid hn
  rw [hn] at hcap hp hl hi ⊢
  rw [hun] at k4 HU ha
  obtain ⟨a0, h0⟩ : ∃ a : Int, x.1 = a := ⟨_, rfl⟩
  obtain ⟨a1, h1⟩ : ∃ a : Int, x.2.1 = a := ⟨_, rfl⟩
  obtain ⟨a2, h2⟩ : ∃ a, bts x.2.2.1 = a := ⟨_, rfl⟩
  obtain ⟨a3, h3⟩ : ∃ a, bts x.2.2.2.1 = a := ⟨_, rfl⟩
  obtain ⟨a5, h5⟩ : ∃ a, bts x.2.2.2.2.2 = a := ⟨_, rfl⟩
  rw [h0] at k0 HSP hp
  rw [h1] at k1
  rw [h2] at k2
  rw [h3] at k3 hq
  rw [h5] at k5
  have H3 := Lib.hid h3
  have H0 := Lib.hid h0
  obtain ⟨Y, hY⟩ : ∃ Y, w.heap.size = Y := ⟨_, rfl⟩
  obtain ⟨W4, hW4⟩ : ∃ W, w.alloc (.cells #[.int .i64 a0, .int .i64 a1, .string a2, .string a3, .slice UA un ucap, .string a5] 32) = W := ⟨_, rfl⟩
  have B4 : Hid (Below w.heap.size w W4) := by rw [← hW4]; exact (Below.refl _ _).alloc (Nat.le_refl _) _
  have hk : Bk W4 Y 32 #[.int .i64 a0, .int .i64 a1, .string a2, .string a3, .slice UA un ucap, .string a5] := by rw [← hW4, ← hY]; exact Bk.new _ _ _
  have y0 : W4.cell? ⟨Y, 0, none⟩ = some (.int .i64 a0) := hk.cell 0
  have y3 : W4.cell? ⟨Y, 3, none⟩ = some (.string a3) := hk.cell 3
  have y4 : W4.cell? ⟨Y, 4, none⟩ = some (.slice UA un ucap) := hk.cell 4
  have HW4 := Lib.hid hW4
  have HYE := Lib.hid hY
  have HK := Lib.hid hk
  have HCO := Lib.hid (fun (g : Nat) (va : Value) (W : World) (hkk : Bk W g 30 #[va, .slice UA un ucap]) (h1 : ReadC W va [(xmlnsL, x.2.2.2.1)]) (h2 : Below w.heap.size w W) =>
    concatA_any g va (.slice UA un ucap) [(xmlnsL, x.2.2.2.1)] x.2.2.2.2.1 W _ hkk h1 (HU.out.below h2) (by simp) (by omega))
  clear hc hcell hx hun h0 h1 h2 h3 h5 hY hW4 hk hn hmax
  by_cases hneg : 0 ≤ a0
  · obtain ⟨p, rfl⟩ : ∃ p : Nat, a0 = p := ⟨a0.toNat, by omega⟩
    obtain ⟨y, hy⟩ : ∃ y, ns[p]? = some y := ⟨_, List.getElem?_eq_getElem (by have := HN.out; omega)⟩
    have hs : spA ns x.1 = y.2.2.2.1 := by rw [H0.out, HSP.out, if_pos hneg, Int.toNat_natCast, hy]
    obtain ⟨uy, haty, -⟩ := HX.out p y hy
    obtain ⟨-, -, -, e3, -, -⟩ := haty.of (w' := W4) (B4.out.block _ (by rw [addBlock]; exact hlb))
    have g0 : decide ((p : Int) ≥ 0) = true := decide_eq_true (by omega)
    rw [hs] at hq
    obtain ⟨s3, hs3⟩ : ∃ a, bts y.2.2.2.1 = a := ⟨_, rfl⟩
    rw [hs3] at hq e3
    clear hneg hy haty hs3
    by_cases heq : x.2.2.2.1 = spA ns x.1
    · have gq : (a3.toList == s3.toList) = true := by rw [hq]; exact decide_eq_true (heq.trans hs)
      clear hs
      have HR : Hid (allA x (spA ns x.1) = x.2.2.2.2.1) := by unfold Hid; rw [HAA.out, if_pos heq]; rfl
      clear heq hq
      go_enter Tryd.func23, Tryd.ntmps23
      go_upto_region 2 with fail
      rw [HW4.out, HYE.out]
      clear k0 k1 k2 k3 k4 k5
      go_wp2_with fail
      go_ret
      exact ⟨_, rfl, by rw [HR.out]; exact HU.out.below B4.out, B4.out⟩
    · have gq : (a3.toList == s3.toList) = false := by rw [hq]; exact decide_eq_false (fun e => heq (e.trans hs.symm))
      clear hs
      have HR : Hid (allA x (spA ns x.1) = [(xmlnsL, x.2.2.2.1)] ++ x.2.2.2.2.1) := by unfold Hid; rw [HAA.out, if_neg heq]
      have HK6 := Lib.hid (Bk.new1 W4 (.cells #[.string ⟨#[120, 109, 108, 110, 115]⟩, .string a3] 29) 30 #[.slice (some ⟨W4.heap.size, 0, none⟩) 1 1, .slice UA un ucap])
      have HR6 : Hid (ReadC ((W4.alloc (.cells #[.string ⟨#[120, 109, 108, 110, 115]⟩, .string a3] 29)).alloc (.cells #[.slice (some ⟨W4.heap.size, 0, none⟩) 1 1, .slice UA un ucap] 30)) (.slice (some ⟨W4.heap.size, 0, none⟩) 1 1) [(xmlnsL, x.2.2.2.1)]) := by rw [← H3.out]; exact one_attr W4 xmlnsL x.2.2.2.1 _
      have HB6 : Hid (Below w.heap.size w ((W4.alloc (.cells #[.string ⟨#[120, 109, 108, 110, 115]⟩, .string a3] 29)).alloc (.cells #[.slice (some ⟨W4.heap.size, 0, none⟩) 1 1, .slice UA un ucap] 30))) := (B4.out.alloc B4.out.size _).alloc (by simp; have := B4.out.size; omega) _
      have y4b : (W4.alloc (.cells #[.string ⟨#[120, 109, 108, 110, 115]⟩, .string a3] 29)).cell? ⟨Y, 4, none⟩ = some (.slice UA un ucap) := (HK.out.alloc (.cells #[.string ⟨#[120, 109, 108, 110, 115]⟩, .string a3] 29)).cell 4
      clear heq hq
      go_enter Tryd.func23, Tryd.ntmps23
      go_upto_region 2 with fail
      rw [HW4.out, HYE.out]
      clear k0 k1 k2 k3 k4 k5
      go_wp2_with (go_at_call 40; refine (HCO.out _ _ _ HK6.out HR6.out HB6.out).mono ?_; rintro e w7 ⟨v7, rfl, o7, b7⟩; obtain ⟨A7, c7, rfl⟩ := o7.slice)
      go_ret
      exact ⟨_, rfl, by rw [HR.out]; exact o7.readC, HB6.out.trans (b7.mono HB6.out.size)⟩
  · have hs : spA ns x.1 = [] := by rw [H0.out, HSP.out, if_neg hneg]
    have g0 : decide (a0 ≥ 0) = false := decide_eq_false (by omega)
    have hem : a3.toList.isEmpty = decide (x.2.2.2.1 = []) := by rw [← H3.out, bts_empty]
    clear hneg hq
    have hq : True := trivial
    by_cases heq : x.2.2.2.1 = spA ns x.1
    · have gq : a3.toList.isEmpty = true := by rw [hem]; exact decide_eq_true (heq.trans hs)
      clear hs hem
      have HR : Hid (allA x (spA ns x.1) = x.2.2.2.2.1) := by unfold Hid; rw [HAA.out, if_pos heq]; rfl
      clear heq hq
      go_enter Tryd.func23, Tryd.ntmps23
      go_upto_region 2 with fail
      rw [HW4.out, HYE.out]
      clear k0 k1 k2 k3 k4 k5
      go_wp2_with fail
      go_ret
      exact ⟨_, rfl, by rw [HR.out]; exact HU.out.below B4.out, B4.out⟩
    · have gq : a3.toList.isEmpty = false := by rw [hem]; exact decide_eq_false (fun e => heq (e.trans hs.symm))
      clear hs hem
      have HR : Hid (allA x (spA ns x.1) = [(xmlnsL, x.2.2.2.1)] ++ x.2.2.2.2.1) := by unfold Hid; rw [HAA.out, if_neg heq]
      have HK6 := Lib.hid (Bk.new1 W4 (.cells #[.string ⟨#[120, 109, 108, 110, 115]⟩, .string a3] 29) 30 #[.slice (some ⟨W4.heap.size, 0, none⟩) 1 1, .slice UA un ucap])
      have HR6 : Hid (ReadC ((W4.alloc (.cells #[.string ⟨#[120, 109, 108, 110, 115]⟩, .string a3] 29)).alloc (.cells #[.slice (some ⟨W4.heap.size, 0, none⟩) 1 1, .slice UA un ucap] 30)) (.slice (some ⟨W4.heap.size, 0, none⟩) 1 1) [(xmlnsL, x.2.2.2.1)]) := by rw [← H3.out]; exact one_attr W4 xmlnsL x.2.2.2.1 _
      have HB6 : Hid (Below w.heap.size w ((W4.alloc (.cells #[.string ⟨#[120, 109, 108, 110, 115]⟩, .string a3] 29)).alloc (.cells #[.slice (some ⟨W4.heap.size, 0, none⟩) 1 1, .slice UA un ucap] 30))) := (B4.out.alloc B4.out.size _).alloc (by simp; have := B4.out.size; omega) _
      have y4b : (W4.alloc (.cells #[.string ⟨#[120, 109, 108, 110, 115]⟩, .string a3] 29)).cell? ⟨Y, 4, none⟩ = some (.slice UA un ucap) := (HK.out.alloc (.cells #[.string ⟨#[120, 109, 108, 110, 115]⟩, .string a3] 29)).cell 4
      clear heq hq
      go_enter Tryd.func23, Tryd.ntmps23
      go_upto_region 2 with fail
      rw [HW4.out, HYE.out]
      clear k0 k1 k2 k3 k4 k5
      go_wp2_with (go_at_call 40; refine (HCO.out _ _ _ HK6.out HR6.out HB6.out).mono ?_; rintro e w7 ⟨v7, rfl, o7, b7⟩; obtain ⟨A7, c7, rfl⟩ := o7.slice)
      go_ret
      exact ⟨_, rfl, by rw [HR.out]; exact o7.readC, HB6.out.trans (b7.mono HB6.out.size)⟩
end Go.Proofs.YtbkfmbkamocllaaDoor
