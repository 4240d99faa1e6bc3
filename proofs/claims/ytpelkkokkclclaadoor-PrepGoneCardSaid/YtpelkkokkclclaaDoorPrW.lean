/-
  cardexlaw06.awake; what the laws ask of names, over plain lists.
-/
import Derived.Test.YtpelkkokkclclaaDoorPrE
import Derived.Test.YtpelkkokkclclaaDoorHolds
import Derived.Test.YtpelkkokkclclaaDoorByt
namespace Go.Proofs.YtpelkkokkclclaaDoor
open Go.RowKit Rg Tx

/-! ### plain lists -/
theorem Pr.keeps {k : Nat} {s : List UInt8} {l : List Nat} (h : ch s = some l) (h2 : (Pr.mapL (k != 3) l).any (Pr.wrong k) = false) (h3 : Pr.wayB (Pr.mapL (k != 3) l) = true) : Pr.prepL k s = (flat (Pr.mapL (k != 3) l), 0) := by
  rw [Pr.prepL_ch h, Pr.prepC_kept h2 h3]
theorem enc_low {c : Nat} (h : c < 128) : enc c = [UInt8.ofNat c] := by
  rw [enc_sane (.inl (by omega))]
  unfold encB
  rw [if_pos h]
theorem flat_cons (c : Nat) (l : List Nat) : flat (c :: l) = enc c ++ flat l := by rw [show c :: l = [c] ++ l from rfl, flat_append, flat_one]
theorem fine_low {c : Nat} (h : 32 ≤ c) (h2 : c < 128) : Pr.Fine c := ⟨.inl (by omega), Pr.okc_of h (by omega)⟩
theorem ch_low {l : List Nat} (h : ∀ c ∈ l, 32 ≤ c ∧ c < 128) : ch (flat l) = some l := Pr.ch_fine fun c hc => fine_low (h c hc).1 (h c hc).2
theorem prep_Ab : prepV 1 [65, 98] = .tuple #[.string ⟨#[97, 98]⟩, .int .i64 0] := by
  have e : flat [65, 98] = [65, 98] := by rw [flat_cons, flat_cons, flat_nil, enc_low (by omega), enc_low (by omega)]; rfl
  have h := Pr.keeps (k := 1) (s := [65, 98]) (l := [65, 98]) (by rw [← e]; exact ch_low (by decide)) (by decide) (by decide)
  have e2 : flat (Pr.mapL (1 != 3) [65, 98]) = [97, 98] := by
    rw [show Pr.mapL (1 != 3) [65, 98] = [97, 98] by decide, flat_cons, flat_cons, flat_nil, enc_low (by omega), enc_low (by omega)]
    rfl
  rw [e2] at h
  exact prepV_of h
theorem prep_A_b : prepV 2 [65, 46, 98] = .tuple #[.string ⟨#[97, 46, 98]⟩, .int .i64 0] := by
  have e : flat [65, 46, 98] = [65, 46, 98] := by rw [flat_cons, flat_cons, flat_cons, flat_nil, enc_low (by omega), enc_low (by omega), enc_low (by omega)]; rfl
  have h := Pr.keeps (k := 2) (s := [65, 46, 98]) (l := [65, 46, 98]) (by rw [← e]; exact ch_low (by decide)) (by decide) (by decide)
  have e2 : flat (Pr.mapL (2 != 3) [65, 46, 98]) = [97, 46, 98] := by
    rw [show Pr.mapL (2 != 3) [65, 46, 98] = [97, 46, 98] by decide, flat_cons, flat_cons, flat_cons, flat_nil, enc_low (by omega), enc_low (by omega), enc_low (by omega)]
    rfl
  rw [e2] at h
  exact prepV_of h
theorem prep_A__b : prepV 3 [65, 32, 98] = .tuple #[.string ⟨#[65, 32, 98]⟩, .int .i64 0] := by
  have e : flat [65, 32, 98] = [65, 32, 98] := by rw [flat_cons, flat_cons, flat_cons, flat_nil, enc_low (by omega), enc_low (by omega), enc_low (by omega)]; rfl
  have h := Pr.keeps (k := 3) (s := [65, 32, 98]) (l := [65, 32, 98]) (by rw [← e]; exact ch_low (by decide)) (by decide) (by decide)
  have e2 : flat (Pr.mapL (3 != 3) [65, 32, 98]) = [65, 32, 98] := by
    rw [show Pr.mapL (3 != 3) [65, 32, 98] = [65, 32, 98] by decide]
    exact e
  rw [e2] at h
  exact prepV_of h

set_option maxHeartbeats 4000000 in
theorem awake_any (w : World) (hT : Tabs w) : Calls Tryd.prog 8 #[] w (Holds w) := by
  have H1 := Lib.hid (node_any ⟨#[65, 98]⟩ w hT (by decide))
  have H2 := Lib.hid (fun W (h : Below w.heap.size w W) => host_any ⟨#[65, 46, 98]⟩ W (hT.below h) (by decide))
  have H3 := Lib.hid (fun W (h : Below w.heap.size w W) => resource_any ⟨#[65, 32, 98]⟩ W (hT.below h) (by decide))
  rw [show (⟨#[65, 98]⟩ : ByteArray).data.toList = [65, 98] from rfl, prep_Ab] at H1
  rw [show (⟨#[65, 46, 98]⟩ : ByteArray).data.toList = [65, 46, 98] from rfl, prep_A_b] at H2
  rw [show (⟨#[65, 32, 98]⟩ : ByteArray).data.toList = [65, 32, 98] from rfl, prep_A__b] at H3
  go_enter Tryd.func8, Tryd.ntmps8
  go_wp2_with fail
  refine H1.out.mono ?_
  rintro e w1 ⟨rfl, b1⟩
  have B1 := Lib.hid b1
  clear b1
  go_wp2_with fail
  refine (H2.out w1 B1.out).mono ?_
  rintro e w2 ⟨rfl, b2⟩
  have B2 := Lib.hid (B1.out.trans (b2.mono B1.out.size))
  clear b2
  go_wp2_with fail
  refine (H3.out w2 B2.out).mono ?_
  rintro e w3 ⟨rfl, b3⟩
  have B3 := Lib.hid (B2.out.trans (b3.mono B2.out.size))
  clear b3
  go_wp2_with fail
  go_ret
  exact ⟨rfl, B3.out⟩
end Go.Proofs.YtpelkkokkclclaaDoor
