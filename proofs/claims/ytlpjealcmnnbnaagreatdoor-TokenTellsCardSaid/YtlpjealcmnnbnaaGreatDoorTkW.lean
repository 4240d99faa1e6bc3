/-
  cardexlaw08.awake.
-/
import Derived.Test.YtlpjealcmnnbnaaGreatDoorTkT
import Derived.Test.YtlpjealcmnnbnaaGreatDoorTokE
namespace Go.Proofs.YtlpjealcmnnbnaaGreatDoor
open Go.RowKit Tk

theorem OwnK.elem {B : Nat} {w : World} {v : Value} {ts : List TokA} (h : OwnK B w v ts) (h0 : 0 < ts.length) : ∃ g cap, v = .slice (some ⟨g, 0, none⟩) ts.length cap ∧ B ≤ g ∧ g < w.heap.size ∧ ts.length ≤ cap ∧ cap ≤ maxLen ∧ ∀ i t, ts[i]? = some t → ∃ u, AtK w g (i * 6) t u ∧ RowA w u t.2.2.2.2.1 := by
  obtain ⟨ks, rfl, h', hr⟩ := h
  rcases h'.2 with ⟨rfl, h1⟩ | ⟨g, cap, cur, rfl, hg, hh, h1, h2, h3, h4⟩
  · rw [List.length_map] at h0; omega
  · exact ⟨g, cap, by rw [List.length_map], hg, lt_of_block hh, by rw [List.length_map]; exact h1, h2, fun i t hi => OwnK.cellsAt hh h4 hr hi⟩
theorem awake1 : tokensL [60, 97, 62, 120, 60, 47, 97, 62] = ([(0, 1, [97], [], [], false), (3, 3, [], [120], [], false), (4, 2, [97], [], [], false)], 0, 0) := by decide +kernel
theorem awake2 : tokensL [60, 97, 62, 60] = ([], 3, 5) := by decide +kernel
set_option maxHeartbeats 4000000 in
set_option maxRecDepth 100000 in
theorem awake_any (w : World) (hT : Tabs w) (hE : ErrS w) : Calls Tryz.prog 4 #[] w fun e w' => e = .returned (.bool true) ∧ Below w.heap.size w w' := by
  have HTab := Lib.hid (fun (W : World) (h : Below w.heap.size w W) => And.intro (hT.below h) (hE.below h))
  have H1 := Lib.hid (tokens_any ⟨#[60, 97, 62, 120, 60, 47, 97, 62]⟩ w hT hE (by show 8 < 4000000000; omega))
  have H2 := Lib.hid (fun (W : World) (h : Below w.heap.size w W) => tokens_any ⟨#[60, 97, 62, 60]⟩ W (HTab.out W h).1 (HTab.out W h).2 (by show 4 < 4000000000; omega))
  rw [show (⟨#[60, 97, 62, 120, 60, 47, 97, 62]⟩ : ByteArray).data.toList = [60, 97, 62, 120, 60, 47, 97, 62] from rfl, awake1] at H1
  rw [show (⟨#[60, 97, 62, 60]⟩ : ByteArray).data.toList = [60, 97, 62, 60] from rfl, awake2] at H2
  clear hT hE
  go_enter Tryz.func4, Tryz.ntmps4
  go_wp2_with fail
  refine H1.out.mono ?_
  rintro e w1 ⟨⟨v, rfl, o1⟩, b1⟩
  have B1 := Lib.hid b1
  obtain ⟨g, cap, rfl, hg, hgl, hcap, _, hat⟩ := o1.elem (by simp)
  obtain ⟨u, ⟨_, k1, _, k3, _⟩, _⟩ := hat 1 _ rfl
  have c7 : w1.cell? ⟨g, 7, none⟩ = some (.int .i64 3) := k1
  have c9 : w1.cell? ⟨g, 9, none⟩ = some (.string ⟨#[120]⟩) := k3
  have C7 := Lib.hid c7
  have C9 := Lib.hid c9
  have HGL := Lib.hid hgl
  clear b1 o1 hat k1 k3 c7 c9 hg hcap hgl
  go_wp2_with fail
  refine (H2.out w1 B1.out).mono ?_
  rintro e w2 ⟨⟨v2, rfl, o2⟩, b2⟩
  have d7 : w2.cell? ⟨g, 7, none⟩ = some (.int .i64 3) := (b2.cell (p := ⟨g, 7, none⟩) HGL.out).trans C7.out
  have d9 : w2.cell? ⟨g, 9, none⟩ = some (.string ⟨#[120]⟩) := (b2.cell (p := ⟨g, 9, none⟩) HGL.out).trans C9.out
  have B2 := Lib.hid (B1.out.trans (b2.mono B1.out.size))
  obtain ⟨A2, cap2, rfl⟩ := o2.len
  clear b2 o2
  go_wp2_with fail
  go_ret
  exact ⟨rfl, B2.out⟩
end Go.Proofs.YtlpjealcmnnbnaaGreatDoor
