/-
  fold.characters: the characters of a string; and the functions that fold hands to its gathering.
-/
import Derived.Test.YtjdpdkghfbaddaaDoorGath
import Derived.Test.YtjdpdkghfbaddaaDoorRefSp
import Derived.Test.YtjdpdkghfbaddaaDoorRefFo
import Derived.Test.YtjdpdkghfbaddaaDoorRefUn
import Derived.Test.YtjdpdkghfbaddaaDoorVal
import Derived.Laws.MakeOwn
namespace Go.Proofs.YtjdpdkghfbaddaaDoor
open Go.RowKit Tx

/-- how the package's loop stands: acc are told, t is ahead -/
def CStand (l : List UInt8) (acc : List (List UInt8)) (t : List UInt8) : Prop := chs l = acc ++ chs t ∧ acc.length + t.length ≤ l.length
theorem CStand.start (l : List UInt8) : CStand l [] l := ⟨rfl, by simp⟩
theorem CStand.next {l t : List UInt8} {acc : List (List UInt8)} (h : CStand l acc t) (ht : t ≠ []) {n : Nat} (hn : (dc t).2 = n) : CStand l (acc ++ [t.take n]) (t.drop n) := by
  have h1 := dc_ge1 t
  have h2 : 0 < t.length := List.length_pos_iff.2 ht
  refine ⟨by rw [h.1, chs_step ht, hn]; simp, ?_⟩
  have := h.2
  rw [List.length_append, List.length_singleton, List.length_drop]
  omega
def strLenO : Value → Nat
  | .string t => t.size
  | _ => 0
theorem strLenO_string (t : ByteArray) : strLenO (.string t) = t.size := rfl

set_option maxHeartbeats 4000000 in
set_option maxRecDepth 100000 in
theorem characters_any (s : ByteArray) (w : World) (hT : Tabs w) (hs : s.size < 1000000000000) :
    Calls Tryd.prog 51 #[.string s] w fun e w' => ∃ g cap, e = .returned (.slice (some ⟨g, 0, none⟩) (chs s.data.toList).length cap) ∧ (chs s.data.toList).length ≤ cap ∧ cap ≤ maxLen ∧ w.heap.size ≤ g ∧ g < w'.heap.size ∧ (∀ j x, (sts (chs s.data.toList))[j]? = some x → w'.cell? ⟨g, j, none⟩ = some (.string x)) ∧ Below w.heap.size w w' := by
  have HTab := Lib.hid (fun (W : World) (hb : Below w.heap.size w W) => hT.below hb)
  have HRC := Lib.hid (Tryd.utf8_RuneCountInString s w (by omega))
  have hrl := Lib.runeCount_le s
  obtain ⟨n, hn⟩ : ∃ n, Lib.runeCount s = n := ⟨_, rfl⟩
  rw [hn] at HRC hrl
  have HL := Lib.hid (chs_len s.data.toList)
  have hsz := Lib.hid (Lib.size_eq s)
  obtain ⟨i0, hi, hz0, hz1, hz2⟩ := info_parts infoStr
  clear hn
  go_enter Tryd.func51, Tryd.ntmps51
  go_wp2_with fail
  refine HRC.out.mono ?_
  rintro e w1 ⟨rfl, pos, rfl⟩
  have b1 : Below w.heap.size w (w.iter s pos) := (Below.refl _ _).alloc (Nat.le_refl _) _
  have hs1 := b1.size
  obtain ⟨w2, hmk, hown0, hgr⟩ := run_make_own (P := Tryd.prog) (w.iter s pos) w.heap.size 22 9 i0 _ 1 Tryd.underlying22 hi hz0 hz1 .i64 .i64 n (by rw [hz2]; omega) (by unfold maxLen; omega) hs1
  have hb0 : Below w.heap.size w w2 := b1.grown hgr hs1 (fun k hk => by cases hk)
  have HO0 : Hid (OwnT w.heap.size w2 (.slice (some ⟨(w.iter s pos).heap.size, 0, none⟩) 0 n) []) := by
    unfold Hid OwnT
    rw [show strs [] = [] from by unfold strs; rfl]
    exact hown0
  clear hown0 hgr b1
  go_wp2_with fail
  go_loopw [0, 3] (fun tv lv wr => ∃ (t : ByteArray) (acc : List (List UInt8)) (v : Value), tv = .string t ∧ lv = v ∧ t.size ≤ s.size ∧ Hid (CStand s.data.toList acc t.data.toList) ∧ Hid (OwnT w.heap.size wr v (sts acc)) ∧ v ≠ .slice none 0 0 ∧ Below w.heap.size w wr) (fun tv _ _ => strLenO tv)
  case atStart => exact ⟨s, [], _, rfl, rfl, Nat.le_refl _, CStand.start _, HO0, by simp, hb0⟩
  case round =>
    obtain ⟨t, acc, lv, rfl, hlv, hts, hst, hown, hnn, hb⟩ := hrel
    have hlv2 := hlv.symm
    subst hlv2
    have hsw := hb.size
    have htz := Lib.hid (Lib.size_eq t)
    have HAL : Hid ((sts acc).length ≤ 1000000000000) := by
      unfold Hid
      rw [sts_len]
      have := hst.out.2
      rw [← hsz.out] at this
      omega
    by_cases he : t.data.toList = []
    · have hte : t.toList.isEmpty = true := by rw [Lib.toList_data, he]; rfl
      have hall : Hid (chs s.data.toList = acc) := by
        unfold Hid
        rw [hst.out.1, he, chs_nil, List.append_nil]
      clear he
      go_wp2_with fail
      go_ret
      have ho := hown.out
      have hforms : ∃ g cap, lv = .slice (some ⟨g, 0, none⟩) (sts acc).length cap ∧ (sts acc).length ≤ cap ∧ cap ≤ maxLen ∧ w.heap.size ≤ g ∧ g < wr.heap.size := by
        rcases ho.2 with ⟨h1, _⟩ | ⟨g, cap, cur, h1, h2, h3, h4, h5, _⟩
        · exact absurd h1 hnn
        · exact ⟨g, cap, h1, h4, h5, h2, lt_of_block h3⟩
      obtain ⟨g, cap, rfl, h4, h5, h2, h3⟩ := hforms
      refine ⟨g, cap, ?_, ?_, ?_, h2, h3, ?_, hb⟩
      · rw [hall.out, sts_len]; rfl
      · rw [hall.out]; rw [sts_len] at h4; exact h4
      · exact h5
      · intro j x hx
        rw [hall.out] at hx
        exact (hown.out.at hx).1
    · have hte : t.toList.isEmpty = false := by
        rw [Lib.toList_data]
        cases h : t.data.toList with
        | nil => exact absurd h he
        | cons a r => rfl
      obtain ⟨c, m, hd⟩ : ∃ c m, dc t.data.toList = (c, m) := ⟨_, _, rfl⟩
      have hm1 := dc_ge1 t.data.toList
      have hm2 := dc_le he
      rw [hd, ← htz.out] at hm2
      rw [hd] at hm1
      have hS := hst.out.next he (n := m) (by rw [hd])
      have HD := Lib.hid (fun (W : World) h => dec_any t c m W he hd h)
      have hcut : (t.extract 0 m).data.toList = t.data.toList.take m := by rw [mid_cut]; simp
      have hext := Lib.extract_to_end t m
      obtain ⟨U, hU⟩ : ∃ U, t.extract m t.size = U := ⟨_, rfl⟩
      have hUs : U.size + m = t.size := by rw [← hU, ByteArray.size_extract]; omega
      rw [hU] at hext
      rw [← hext] at hS
      have HS := Lib.hid hS
      have HT2 : Hid (sts (acc ++ [t.data.toList.take m]) = sts acc ++ [t.extract 0 m]) := by unfold Hid; rw [sts_snoc, bytes_of hcut]
      clear hd hcut hext he hS
      go_wp2_with fail
      refine (HD.out _ (HTab.out wr hb)).mono ?_
      rintro e w3 ⟨rfl, b3⟩
      have hb3 : Below w.heap.size w w3 := hb.trans (b3.mono hsw)
      have hown3 := Lib.hid (hown.out.below b3)
      have hsw3 := hb3.size
      clear b3
      go_wp2_with (at_builtin; refine push_str rfl _ _ rfl w.heap.size lv (sts acc) (t.extract 0 m) w3 rfl hown3.out rfl HAL.out hsw3 ?_)
      intro v' w4 h1 h2
      have R1 : Hid (OwnT w.heap.size w4 v' (sts (acc ++ [t.data.toList.take m]))) := by unfold Hid; rw [HT2.out]; exact h1
      have hvn : v' ≠ .slice none 0 0 := by
        intro e
        have := h1.slice
        obtain ⟨A, cap, h⟩ := this
        rw [e] at h
        simp at h
      clear h1
      go_wp2_with fail
      go_roundw
      case rel => exact ⟨U, _, _, rfl, rfl, by omega, HS, R1, hvn, hb3.trans h2⟩
      case measure => simp only [strLenO_string]; omega
end Go.Proofs.YtjdpdkghfbaddaaDoor
