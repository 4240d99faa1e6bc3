/-
  The law TokenTells.
-/
import Derived.Test.YtlpjealcmnnbnaaGreatDoorTkN
import Derived.Test.YtlpjealcmnnbnaaGreatDoorTkW
import Derived.Test.YtlpjealcmnnbnaaGreatDoorTkQ
import Derived.Test.YtlpjealcmnnbnaaGreatDoorRfD
import Derived.Test.YtlpjealcmnnbnaaGreatDoorHolds
namespace Go.Proofs.YtlpjealcmnnbnaaGreatDoor
open Go.RowKit Tk

set_option maxHeartbeats 4000000 in
set_option maxRecDepth 100000 in
theorem tokenTells_any (s : ByteArray) (w : World) (hT : Tabs w) (hE : ErrS w) :
    Calls Tryz.prog 3 #[.string s] w (Holds w) := by
  have HTab := Lib.hid (fun (W : World) (h : Below w.heap.size w W) => And.intro (hT.below h) (hE.below h))
  have HA := Lib.hid (fun (W : World) (h : Below w.heap.size w W) => awake_any W (HTab.out W h).1 (HTab.out W h).2)
  have hsz := Lib.size_eq s
  by_cases hbig : 4000 < s.size
  · clear hT hE hsz
    go_enter Tryz.func3, Tryz.ntmps3
    go_wp2_with (go_at_call 4; refine (HA.out _ (Below.refl _ _)).mono ?_; rintro e w1 ⟨rfl, b1⟩)
    go_ret
    exact ⟨rfl, b1⟩
  have H1 := Lib.hid (tokens_any s w hT hE (by omega))
  have H2 := Lib.hid (fun W => rtokens_any s W (by omega))
  have HCN := Lib.hid (toks_count s.data.toList (by rw [← hsz]; omega))
  have HCA := Lib.hid (toks_attrs s.data.toList (by rw [← hsz]; omega))
  obtain ⟨O, hO⟩ : ∃ O, tokensL s.data.toList = O := ⟨_, rfl⟩
  rw [hO] at H1 H2 HCN HCA
  obtain ⟨p, hp⟩ : ∃ p : Int, (O.2.1 : Int) = p := ⟨_, rfl⟩
  obtain ⟨q, hq⟩ : ∃ q : Int, (O.2.2 : Int) = q := ⟨_, rfl⟩
  have HP := Lib.hid hp
  have HQ := Lib.hid hq
  have HSM := Lib.hid (fun (v u : Value) (W : World) (hx : ReadK W v O.1) (hy : ReadK W u O.1) => sameK_any v u O.1 O.1 W hx hy (by have := HCN.out; omega) (by have := HCN.out; omega) (fun t ht => by have := HCA.out t ht; omega) (fun t ht => by have := HCA.out t ht; omega))
  clear hO hT hE hsz hp hq
  go_enter Tryz.func3, Tryz.ntmps3
  go_wp2_with fail
  refine H1.out.mono ?_
  rintro e w1 ⟨⟨v, rfl, o1⟩, b1⟩
  rw [HP.out, HQ.out]
  have B1 := Lib.hid b1
  have R1 := Lib.hid o1.reads
  obtain ⟨A1, cap1, rfl⟩ := o1.len
  clear b1 o1
  go_wp2_with fail
  refine (H2.out w1).mono ?_
  rintro e w2 ⟨⟨v2, rfl, o2⟩, b2⟩
  rw [HP.out, HQ.out]
  have B2 := Lib.hid (B1.out.trans (b2.mono B1.out.size))
  have R1b := Lib.hid (R1.out.below b2)
  have R2 := Lib.hid o2.reads
  obtain ⟨A2, cap2, rfl⟩ := o2.len
  clear b2 o2
  go_wp2_with fail
  refine (HA.out _ B2.out).mono ?_
  rintro e w3 ⟨rfl, b3⟩
  have B3 := Lib.hid (B2.out.trans (b3.mono B2.out.size))
  have R1c := Lib.hid (R1b.out.below b3)
  have R2c := Lib.hid (R2.out.below b3)
  clear b3
  go_wp2_with fail
  refine (HSM.out _ _ w3 R1c.out R2c.out).mono ?_
  rintro e w4 ⟨rfl, b4⟩
  have B4 := Lib.hid (B3.out.trans (b4.mono B3.out.size))
  simp only [decide_true]
  clear b4
  go_wp2_with fail
  go_ret
  exact ⟨by simp, B4.out⟩
end Go.Proofs.YtlpjealcmnnbnaaGreatDoor
