/-
  THE LAWS OF PACKAGE fold (stage 3): that it is awake.
-/
import Derived.Test.YtjdpdkghfbaddaaDoorFoSp
import Derived.Test.YtjdpdkghfbaddaaDoorFoFo
import Derived.Test.YtjdpdkghfbaddaaDoorFoVal
import Derived.Test.YtjdpdkghfbaddaaDoorHolds
namespace Go.Proofs.YtjdpdkghfbaddaaDoor
open Go.RowKit Tx

/-- what the walks of package fold lean on: utf8's tables, and that a bound is an integer -/
def Okw (w : World) : Prop := Tabs w ∧ MaxL w
theorem Okw.below {w w' : World} (h : Okw w) (hb : Below w.heap.size w w') : Okw w' := ⟨h.1.below hb, h.2.below hb⟩

set_option maxHeartbeats 2000000 in
set_option maxRecDepth 100000 in
theorem awake_any (w : World) (hO : Okw w) : Calls Tryd.prog 9 #[] w (Holds w) := by
  have u0 : unfA [97, 13, 10, 32, 98, 13, 10] = ([[97, 98]], 0) := by decide +kernel
  have p0 : plain [97, 92, 44, 98] = some [97, 44, 98] := by decide +kernel
  have f0 : foldL (bts [⟨#[120]⟩]) = [120, 13, 10] := by decide +kernel
  have s0 : split1 59 [97, 59, 98] = [[97], [98]] := by decide +kernel
  have HU := Lib.hid (fun (W : World) h1 h2 => unfold_any ⟨#[97, 13, 10, 32, 98, 13, 10]⟩ W h1 h2 (by decide))
  have hP := fun (W : World) h => plain_fold ⟨#[97, 92, 44, 98]⟩ W h (by decide)
  rw [show (⟨#[97, 92, 44, 98]⟩ : ByteArray).data.toList = [97, 92, 44, 98] from rfl, plainV_some p0] at hP
  have HP := Lib.hid hP
  have hF := fun (v : Value) (W : World) h1 h2 => fold_any v [⟨#[120]⟩] W h1 h2 (by decide)
  rw [f0] at hF
  have HF := Lib.hid hF
  have HS := Lib.hid (fun (W : World) => split_any ⟨#[97, 59, 98]⟩ 59 W (by decide))
  have HPl := Lib.hid plainT_any
  have HU0 := Lib.hid u0
  have HS0 := Lib.hid s0
  have HOK := Lib.hid (fun (W : World) (h : Below w.heap.size w W) => hO.below h)
  clear u0 p0 f0 s0 hP hF
  go_enter Tryd.func9, Tryd.ntmps9
  go_wp2_with fail
  refine (HU.out w (HOK.out w (Below.refl _ _)).1 (HOK.out w (Below.refl _ _)).2).mono ?_
  rintro e w1 ⟨v, rfl, hv, b1⟩
  rw [HU0.out] at hv ⊢
  have HV := Lib.hid hv
  clear hv
  go_wp2_with fail
  refine (HP.out _ (HOK.out w1 b1).2).mono ?_
  rintro e w2 ⟨rfl, b2⟩
  have c2 : Below w.heap.size w w2 := b1.trans (b2.mono b1.size)
  have hv2 := Lib.hid (HV.out.below b2)
  go_wp2_with fail
  have r1 : ReadT (w2.heap.size + 1) (w2.alloc (.cells #[.string ⟨#[97, 98]⟩] 9)) v (sts [[97, 98]]) := (hv2.out.below ((Below.refl _ _).alloc b2.size _)).more (by have := b2.size; omega)
  have r2 : ReadT (w2.heap.size + 1) (w2.alloc (.cells #[.string ⟨#[97, 98]⟩] 9)) (.slice (some ⟨w2.heap.size, 0, none⟩) 1 1) (sts [[97, 98]]) := by
    have := ReadT.made (w := w2.alloc (.cells #[.string ⟨#[97, 98]⟩] 9)) (g := w2.heap.size) (cap := 1) (n := 1) (o := 0) (x := sts [[97, 98]]) rfl (by simp) (fun i b hb => by
      match i, hb with
      | 0, hb =>
        cases hb
        exact cell_of_row _ _ 0 _ 9 (0, 0) (heap_alloc_new w2 _))
    rwa [World.size_alloc] at this
  refine (HPl.out (w2.heap.size + 1) v _ _ _ _ r1 r2 (by decide) (by decide)).mono ?_
  rintro e w3 ⟨rfl, b3⟩
  have c3 : Below w.heap.size w w3 := (c2.alloc c2.size _).trans (b3.mono (by have := c2.size; simp; omega))
  clear r1 r2
  rw [show decide (sts [[97, 98]] = sts [[97, 98]]) = true from decide_eq_true rfl]
  go_wp2_with fail
  have hc3s := c3.size
  have r3 : ReadT (w3.alloc (.cells #[.string ⟨#[120]⟩] 9)).heap.size (w3.alloc (.cells #[.string ⟨#[120]⟩] 9)) (.slice (some ⟨w3.heap.size, 0, none⟩) 1 1) [⟨#[120]⟩] :=
    ReadT.made (x := [⟨#[120]⟩]) (o := 0) rfl (by simp) (fun i b hb => by
      match i, hb with
      | 0, hb =>
        cases hb
        exact cell_of_row _ _ 0 _ 9 (0, 0) (heap_alloc_new w3 _))
  have c3a : Below w.heap.size w (w3.alloc (.cells #[.string ⟨#[120]⟩] 9)) := c3.alloc hc3s _
  refine (HF.out _ _ (HOK.out _ c3a).1 r3).mono ?_
  rintro e w4 ⟨rfl, b4⟩
  have c4 : Below w.heap.size w w4 := c3a.trans (b4.mono c3a.size)
  clear r3
  go_wp2_with fail
  refine (HS.out _).mono ?_
  rintro e w5 ⟨v5, rfl, hv5, b5⟩
  rw [HS0.out] at hv5
  obtain ⟨g, cap, rfl⟩ := hv5.some (by decide)
  have c5 : Below w.heap.size w w5 := c4.trans (b5.mono c4.size)
  clear hv5
  simp only [show (sts [[97], [98]]).length = 2 from rfl]
  go_wp2_with fail
  go_ret
  exact ⟨rfl, c5⟩
end Go.Proofs.YtjdpdkghfbaddaaDoor
