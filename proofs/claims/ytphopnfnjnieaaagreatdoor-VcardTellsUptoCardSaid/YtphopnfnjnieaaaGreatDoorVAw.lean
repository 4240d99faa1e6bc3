/-
  cardexlaw11.awake.
-/
import Derived.Test.YtphopnfnjnieaaaGreatDoorVce
import Derived.Test.YtphopnfnjnieaaaGreatDoorVRd
import Derived.Test.YtphopnfnjnieaaaGreatDoorAtS
import Derived.Test.YtphopnfnjnieaaaGreatDoorHolds
namespace Go.Proofs.YtphopnfnjnieaaaGreatDoor
open Go.RowKit Vc

/-- What the walks of package vcard need of the tables. -/
def Okw (w : World) : Prop := Tabs w ∧ MaxL w ∧ Folds w
theorem Okw.below {w w' : World} (h : Okw w) (hb : Below w.heap.size w w') : Okw w' := ⟨h.1.below hb, h.2.1.below hb, h.2.2.below hb⟩
set_option maxRecDepth 100000 in
set_option maxHeartbeats 4000000 in
theorem awake_any (w : World) (hw : Okw w) : Calls Tryz.prog 6 #[] w (Holds w) := by
  have H1 := Lib.hid (read_any ⟨cardL.toArray⟩ w hw.1 hw.2.1 hw.2.2 (by decide))
  unfold ReadsV at H1
  rw [show (⟨cardL.toArray⟩ : ByteArray).data.toList = cardL from rfl, card_read] at H1
  clear hw
  go_enter Tryz.func6, Tryz.ntmps6
  go_wp2_with fail
  refine H1.out.mono ?_
  rintro e w1 ⟨⟨v, rfl, A, cap, rfl, h1⟩, b1⟩
  have B1 := Lib.hid b1
  obtain ⟨ad, rfl, _, hat⟩ := h1 (by simp)
  obtain ⟨u, hu, A2, cap2, rfl, h2⟩ := hat 0 _ rfl
  obtain ⟨ad2, rfl, _, hat2⟩ := h2 (by simp)
  obtain ⟨u3, ⟨c0, c1, c2, _⟩, A3, cap3, rfl, h3⟩ := hat2 1 _ rfl
  obtain ⟨ad3, rfl, _, hat3⟩ := h3 (by simp)
  obtain ⟨d0, d1⟩ := hat3 0 _ rfl
  have k0 : w1.cell? ad = some (.slice (some ad2) 2 cap2) := hu
  have k1 : w1.cell? ⟨ad2.block, ad2.off + 4, none⟩ = some (.string ⟨#[120]⟩) := c0
  have k2 : w1.cell? ⟨ad2.block, ad2.off + 5, none⟩ = some (.string ⟨#[84, 69, 76]⟩) := c1
  have k3 : w1.cell? ⟨ad2.block, ad2.off + 6, none⟩ = some (.slice (some ad3) 1 cap3) := c2
  have k4 : w1.cell? ad3 = some (.string ⟨#[84, 89, 80, 69]⟩) := d0
  have k5 : w1.cell? ⟨ad3.block, ad3.off + 1, none⟩ = some (.string ⟨#[97, 59, 98]⟩) := d1
  clear H1 h1 h2 h3 hat hat2 hat3 b1 hu c0 c1 c2 d0 d1
  go_wp2_with fail
  go_ret
  exact ⟨rfl, B1.out⟩
end Go.Proofs.YtphopnfnjnieaaaGreatDoor
