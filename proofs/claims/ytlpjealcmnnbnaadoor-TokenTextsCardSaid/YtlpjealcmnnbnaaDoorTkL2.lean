/-
  The law TokenTexts.
-/
import Derived.Test.YtlpjealcmnnbnaaDoorTkW
import Derived.Test.YtlpjealcmnnbnaaDoorTokX
import Derived.Test.YtlpjealcmnnbnaaDoorRefEsc
import Derived.Test.YtlpjealcmnnbnaaDoorUint
import Derived.Test.YtlpjealcmnnbnaaDoorHolds
namespace Go.Proofs.YtlpjealcmnnbnaaDoor
open Go.RowKit Tk

theorem gap_elem : ∀ (i : Nat) (h : i < 4), ([.string ⟨#[32]⟩, .string ⟨#[9, 10]⟩, .string ⟨#[32, 32]⟩, .string ⟨#[13, 32]⟩] : List Value)[i]'h = .string (bts (gaps.getD i [])) := by
  intro i h
  obtain rfl | rfl | rfl | rfl : i = 0 ∨ i = 1 ∨ i = 2 ∨ i = 3 := by omega
  all_goals rfl
theorem gap_in : ∀ i, i < 4 → gaps.getD i [] ∈ gaps := by
  intro i h
  obtain rfl | rfl | rfl | rfl : i = 0 ∨ i = 1 ∨ i = 2 ∨ i = 3 := by omega
  all_goals decide
set_option maxHeartbeats 8000000 in
set_option maxRecDepth 100000 in
theorem tokenTexts_any (s : ByteArray) (n : Int) (w : World) (hT : Tabs w) (hE : ErrS w) (hs : s.size ≤ maxLen) :
    Calls Tryd.prog 3 #[.string s, .int .i64 n] w (Holds w) := by
  unfold maxLen at hs
  have HTab := Lib.hid (fun (W : World) (h : Below w.heap.size w W) => And.intro (hT.below h) (hE.below h))
  have HA := Lib.hid (fun (W : World) (h : Below w.heap.size w W) => awake_any W (HTab.out W h).1 (HTab.out W h).2)
  have HTk := Lib.hid (fun (s : ByteArray) (W : World) (h : Below w.heap.size w W) (h2 : s.size < 4000000000) => tokens_any s W (HTab.out W h).1 (HTab.out W h).2 h2)
  clear hT hE
  by_cases hbig : 500 < s.size
  · go_enter Tryd.func3, Tryd.ntmps3
    go_wp2_with (go_at_call 8; refine (HA.out _ (Below.refl _ _)).mono ?_; rintro e w1 ⟨rfl, b1⟩)
    go_ret
    exact ⟨rfl, b1⟩
  have hs5 : s.size ≤ 500 := by omega
  have HV := Lib.hid (fun W => rvalid_any s W (by omega))
  cases hv : Tx.valid s.data.toList with
  | false =>
    rw [hv] at HV
    clear hv
    go_enter Tryd.func3, Tryd.ntmps3
    go_wp2_with fail
    refine (HV.out _).mono ?_
    rintro e w0 ⟨rfl, rfl⟩
    go_wp2_with (go_at_call 8; refine (HA.out _ (Below.refl _ _)).mono ?_; rintro e w1 ⟨rfl, b1⟩)
    go_ret
    exact ⟨rfl, b1⟩
  | true =>
    rw [hv] at HV
    obtain ⟨i, hi, hi4⟩ := uintMod n 4 (by omega) (by omega)
    have hi' : i < 4 := by omega
    have hel := gap_elem i hi'
    have hgi := gap_in i hi'
    have HES := Lib.hid (fun W => rescape_any s W (by omega))
    obtain ⟨g, hg⟩ : ∃ g, gaps.getD i [] = g := ⟨_, rfl⟩
    rw [hg] at hel hgi
    obtain ⟨_, _, _, hgl⟩ := gap_facts hgi
    have htold := Lib.hid (texts_told hgi hv (by rw [← Lib.size_eq]; exact hs5))
    obtain ⟨v, hve⟩ : ∃ v, Tx.esc s.data.toList = v := ⟨_, rfl⟩
    have hvl : v.length ≤ 3000 := by
      have := Tx.esc_len s.data.toList
      rw [hve, ← Lib.size_eq] at this
      omega
    rw [hve] at htold HES
    obtain ⟨G, hG⟩ : ∃ G, bts g = G := ⟨_, rfl⟩
    obtain ⟨V, hV⟩ : ∃ V, bts v = V := ⟨_, rfl⟩
    have hGl : G.size ≤ 2 := by rw [← hG, Lib.size_eq]; exact hgl
    have hVl : V.size ≤ 3000 := by rw [← hV, Lib.size_eq]; exact hvl
    rw [hG] at hel
    rw [show (⟨v.toArray⟩ : ByteArray) = V from hV] at HES
    have hcat : ((⟨#[60, 97]⟩ : ByteArray) ++ G ++ (⟨#[98]⟩ : ByteArray) ++ G ++ (⟨#[61]⟩ : ByteArray) ++ G ++ (⟨#[39]⟩ : ByteArray) ++ V ++ (⟨#[39]⟩ : ByteArray) ++ G ++ (⟨#[62]⟩ : ByteArray) ++ V ++ (⟨#[60, 47, 97]⟩ : ByteArray) ++ G ++ (⟨#[62]⟩ : ByteArray)).data.toList = textsL g v := by
      rw [← hG, ← hV]
      simp [textsL]
    have hcs : ((⟨#[60, 97]⟩ : ByteArray) ++ G ++ (⟨#[98]⟩ : ByteArray) ++ G ++ (⟨#[61]⟩ : ByteArray) ++ G ++ (⟨#[39]⟩ : ByteArray) ++ V ++ (⟨#[39]⟩ : ByteArray) ++ G ++ (⟨#[62]⟩ : ByteArray) ++ V ++ (⟨#[60, 47, 97]⟩ : ByteArray) ++ G ++ (⟨#[62]⟩ : ByteArray)).size < 4000000000 := by
      rw [Lib.size_eq, hcat]
      unfold textsL
      simp only [List.length_append, List.length_cons, List.length_nil]
      omega
    have H1 := Lib.hid (fun (W : World) h => HTk.out _ W h hcs)
    rw [hcat] at H1
    clear hv hgi hg hgl hve hvl hG hV hcat hcs hi4
    go_enter Tryd.func3, Tryd.ntmps3
    go_wp2_with fail
    refine (HV.out _).mono ?_
    rintro e w0 ⟨rfl, rfl⟩
    go_wp2_with fail
    have B0 : Hid (Below w.heap.size w (w.alloc (.cells #[.string ⟨#[32]⟩, .string ⟨#[9, 10]⟩, .string ⟨#[32, 32]⟩, .string ⟨#[13, 32]⟩] 9))) := (Below.refl _ _).alloc (Nat.le_refl _) _
    refine (HES.out _).mono ?_
    rintro e w1 ⟨rfl, rfl⟩
    clear hel hi
    go_wp2_with fail
    refine (H1.out _ B0.out).mono ?_
    rintro e w2 ⟨⟨v2, he, o2⟩, b2⟩
    rcases htold.out with ⟨h0, p, ht⟩ | ⟨h0, p, q, ht⟩
    · skip
      rw [ht] at he o2
      simp only at he
      subst he
      have B2 : Hid (Below w.heap.size w w2) := B0.out.trans (b2.mono B0.out.size)
      obtain ⟨g0, cap0, rfl, _, hgl0, _, _, hat⟩ := o2.elem (by simp)
      obtain ⟨u, ⟨_, _, _, _, c4, c5⟩, hu⟩ := hat 0 _ rfl
      obtain ⟨A, capa, rfl, hac⟩ := hu.cells
      obtain ⟨ga, rfl, hga, hatt⟩ := hac (by simp)
      obtain ⟨_, a1⟩ := hatt 0 _ rfl
      simp only [Nat.zero_mul, Nat.zero_add] at a1 c4 c5
      have c4' : w2.cell? ⟨g0, 4, none⟩ = some (.slice (some ⟨ga, 0, none⟩) 1 capa) := c4
      have c5' : w2.cell? ⟨g0, 5, none⟩ = some (.bool false) := c5
      have a1' : w2.cell? ⟨ga, 1, none⟩ = some (.string s) := a1
      have C4 := Lib.hid c4'
      have C5 := Lib.hid c5'
      have A1 := Lib.hid a1'
      have ZG := Lib.hid hgl0
      have ZA := Lib.hid hga
      have hse : s.toList.isEmpty = true := by
        rw [show s = (⟨s.data.toList.toArray⟩ : ByteArray) from rfl, ByteArray.toList_mk, h0]
        rfl
      clear b2 o2 hat hu hac hatt c4 c5 a1 c4' c5' a1' hgl0 hga h0 ht
      go_wp2_with fail
      refine (HA.out _ B2.out).mono ?_
      rintro e w3 ⟨rfl, b3⟩
      have d4 : w3.cell? ⟨g0, 4, none⟩ = some (.slice (some ⟨ga, 0, none⟩) 1 capa) := (b3.cell (p := ⟨g0, 4, none⟩) ZG.out).trans C4.out
      have d5 : w3.cell? ⟨g0, 5, none⟩ = some (.bool false) := (b3.cell (p := ⟨g0, 5, none⟩) ZG.out).trans C5.out
      have e1 : w3.cell? ⟨ga, 1, none⟩ = some (.string s) := (b3.cell (p := ⟨ga, 1, none⟩) ZA.out).trans A1.out
      have B3 : Hid (Below w.heap.size w w3) := B2.out.trans (b3.mono B2.out.size)
      clear b3
      go_wp2_with fail
      go_ret
      exact ⟨rfl, B3.out⟩
    · skip
      rw [ht] at he o2
      simp only at he
      subst he
      have B2 : Hid (Below w.heap.size w w2) := B0.out.trans (b2.mono B0.out.size)
      obtain ⟨g0, cap0, rfl, _, hgl0, _, _, hat⟩ := o2.elem (by simp)
      obtain ⟨u, ⟨_, _, _, _, c4, c5⟩, hu⟩ := hat 0 _ rfl
      obtain ⟨A, capa, rfl, hac⟩ := hu.cells
      obtain ⟨ga, rfl, hga, hatt⟩ := hac (by simp)
      obtain ⟨_, a1⟩ := hatt 0 _ rfl
      obtain ⟨u1, ⟨_, _, _, k3, _⟩, _⟩ := hat 1 _ rfl
      simp only [Nat.zero_mul, Nat.zero_add] at a1 c4 c5
      have c4' : w2.cell? ⟨g0, 4, none⟩ = some (.slice (some ⟨ga, 0, none⟩) 1 capa) := c4
      have c5' : w2.cell? ⟨g0, 5, none⟩ = some (.bool false) := c5
      have a1' : w2.cell? ⟨ga, 1, none⟩ = some (.string s) := a1
      have C4 := Lib.hid c4'
      have C5 := Lib.hid c5'
      have A1 := Lib.hid a1'
      have ZG := Lib.hid hgl0
      have ZA := Lib.hid hga
      have k3' : w2.cell? ⟨g0, 9, none⟩ = some (.string s) := k3
      have K3 := Lib.hid k3'
      have hse : s.toList.isEmpty = false := by
        rw [show s = (⟨s.data.toList.toArray⟩ : ByteArray) from rfl, ByteArray.toList_mk]
        cases hq : s.data.toList with
        | nil => exact absurd hq h0
        | cons c t => rfl
      clear b2 o2 hat hu hac hatt c4 c5 a1 c4' c5' a1' hgl0 hga h0 ht k3 k3'
      go_wp2_with fail
      refine (HA.out _ B2.out).mono ?_
      rintro e w3 ⟨rfl, b3⟩
      have d4 : w3.cell? ⟨g0, 4, none⟩ = some (.slice (some ⟨ga, 0, none⟩) 1 capa) := (b3.cell (p := ⟨g0, 4, none⟩) ZG.out).trans C4.out
      have d5 : w3.cell? ⟨g0, 5, none⟩ = some (.bool false) := (b3.cell (p := ⟨g0, 5, none⟩) ZG.out).trans C5.out
      have e1 : w3.cell? ⟨ga, 1, none⟩ = some (.string s) := (b3.cell (p := ⟨ga, 1, none⟩) ZA.out).trans A1.out
      have d9 : w3.cell? ⟨g0, 9, none⟩ = some (.string s) := (b3.cell (p := ⟨g0, 9, none⟩) ZG.out).trans K3.out
      have B3 : Hid (Below w.heap.size w w3) := B2.out.trans (b3.mono B2.out.size)
      clear b3
      go_wp2_with fail
      go_ret
      exact ⟨rfl, B3.out⟩
end Go.Proofs.YtlpjealcmnnbnaaDoor
