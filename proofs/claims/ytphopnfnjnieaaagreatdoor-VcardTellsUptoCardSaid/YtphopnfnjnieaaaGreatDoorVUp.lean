/-
  '[]byte(s)', its letters turned in their places, 'string(b)': bytes in a row of the call's own; cardexref08.upper.
-/
import Derived.Test.YtphopnfnjnieaaaGreatDoorVce
import Derived.Test.YtphopnfnjnieaaaGreatDoorMem
import Derived.Test.YtphopnfnjnieaaaGreatDoorAtt
import Derived.Lib.ConvBytes
import Derived.Lib.AtoiErrMem
import Derived.Laws.IdiomStrings
namespace Go.Proofs.YtphopnfnjnieaaaGreatDoor
open Go.RowKit Vc

/-- A block of bytes that may be written, these ahead in it. -/
def Row8 (w : World) (g : Nat) (l : List UInt8) : Prop := ∃ (cs : Array Value) (lo hi : Nat), w.heap[g]? = some (.cells cs 5 (lo, hi)) ∧ l.length ≤ lo ∧ l.length ≤ cs.size ∧ ∀ (j : Nat) (c : UInt8), l[j]? = some c → cs[j]? = some (Value.int .u8 (c.toNat : Nat))
theorem Row8.lt {w : World} {g : Nat} {l : List UInt8} (h : Row8 w g l) : g < w.heap.size := by
  obtain ⟨_, _, _, h, _⟩ := h
  exact lt_of_block h
theorem Row8.cell {w : World} {g j : Nat} {l : List UInt8} {c : UInt8} (h : Row8 w g l) (hc : l[j]? = some c) : w.cell? ⟨g, j, none⟩ = some (.int .u8 (c.toNat : Nat)) := by
  obtain ⟨cs, lo, hi, h, _, _, h4⟩ := h
  rw [cell_of_row w g j cs _ _ h]
  exact h4 j c hc
theorem Row8.free {w : World} {g j : Nat} {l : List UInt8} (h : Row8 w g l) (hj : j < l.length) : w.frozen? ⟨g, j, none⟩ = false := by
  obtain ⟨cs, lo, hi, h, h2, _, _⟩ := h
  simp [World.frozen?, h]
  omega
theorem Row8.put {w : World} {g k : Nat} {l : List UInt8} (h : Row8 w g l) (d : UInt8) : Row8 (w.setCell ⟨g, k, none⟩ (.int .u8 (d.toNat : Nat))) g (l.set k d) := by
  obtain ⟨cs, lo, hi, h, h2, h3, h4⟩ := h
  refine ⟨cs.setIfInBounds k (.int .u8 (d.toNat : Nat)), lo, hi, ?_, by rw [List.length_set]; exact h2, by rw [List.length_set, Array.size_setIfInBounds]; exact h3, fun j c hc => ?_⟩
  · show (w.heap.modify g _)[g]? = _
    simp [Array.getElem?_modify, h]
  · rw [List.getElem?_set] at hc
    by_cases hk : k = j
    · subst hk
      rw [if_pos rfl] at hc
      split at hc
      · rename_i hlt
        cases hc
        rw [Array.getElem?_setIfInBounds, if_pos rfl, if_pos (by omega)]
      · cases hc
    · rw [if_neg hk] at hc
      rw [Array.getElem?_setIfInBounds, if_neg hk]
      exact h4 j c hc
theorem Row8.below {w w' : World} {g : Nat} {l : List UInt8} (h : Row8 w g l) (hb : Below w.heap.size w w') : Row8 w' g l := by
  have hl := h.lt
  obtain ⟨cs, lo, hi, h, h'⟩ := h
  exact ⟨cs, lo, hi, (hb.block g hl).trans h, h'⟩
theorem Row8.new (w : World) (s : ByteArray) : Row8 (Lib.bytesWorld w 5 s) w.heap.size s.data.toList := by
  have h := Lib.bytesWorld_at_new w 5 s
  have hn : s.data.toList.length ≤ (Lib.bytesCells w 5 s).size := by
    unfold Lib.bytesCells
    rw [Array.size_append, Array.size_map, Array.length_toList]
    omega
  refine ⟨_, _, _, h, hn, hn, fun j c hc => ?_⟩
  have hj : j < s.size := by
    rw [Lib.size_eq]
    exact (List.getElem?_eq_some_iff.1 hc).1
  have h2 := Lib.bytesWorld_cell w 5 s j hj
  rw [cell_of_row _ _ j _ _ _ h] at h2
  rw [h2, List.getD, hc]
  rfl
/-- 'string(b)' -/
theorem Row8.back {w : World} {g cap n : Nat} {l : List UInt8} (h : Row8 w g l) (hn : l.length = n) : (convert 35 9 (.slice (some ⟨g, 0, none⟩) n cap)).run Tryz.prog w = .ok (.string (bts l)) w := by
  subst hn
  refine run_convert_bytes_back w 35 9 5 ⟨g, 0, none⟩ cap l Tryz.underlying35 Tryz.underlying5 Tryz.underlying9 fun j hj => ?_
  have := h.cell (List.getElem?_eq_getElem hj)
  rw [add_at, Nat.zero_add]
  exact this
/-- the letters ahead of a place turned -/
def upK (l : List UInt8) (k : Nat) : List UInt8 := up (l.take k) ++ l.drop k
theorem upK_zero (l : List UInt8) : upK l 0 = l := rfl
theorem upK_full (l : List UInt8) : upK l l.length = up l := by unfold upK; rw [List.take_length, List.drop_length, List.append_nil]
theorem upK_len (l : List UInt8) (k : Nat) : (upK l k).length = l.length := by
  unfold upK up
  rw [List.length_append, List.length_map, List.length_take, List.length_drop]
  omega
theorem upK_get {l : List UInt8} {k : Nat} {c : UInt8} (h : l[k]? = some c) : (upK l k)[k]? = some c := by
  have hk := (List.getElem?_eq_some_iff.1 h).1
  unfold upK up
  rw [List.getElem?_append_right (by rw [List.length_map, List.length_take]; omega), List.length_map, List.length_take, Nat.min_eq_left (by omega), Nat.sub_self, List.getElem?_drop, Nat.add_zero]
  exact h
theorem upK_next {l : List UInt8} {k : Nat} {c : UInt8} (h : l[k]? = some c) : upK l (k + 1) = (upK l k).set k (upC c) := by
  obtain ⟨hk, hc⟩ := List.getElem?_eq_some_iff.1 h
  unfold upK up
  rw [List.set_append_right _ _ (by rw [List.length_map, List.length_take]; omega), List.length_map, List.length_take, Nat.min_eq_left (by omega), Nat.sub_self, List.drop_eq_getElem_cons hk, List.set_cons_zero, List.take_add_one, h]
  simp
theorem upK_same {l : List UInt8} {k : Nat} {c : UInt8} (h : l[k]? = some c) (hu : upC c = c) : upK l (k + 1) = upK l k := by
  rw [upK_next h, hu]
  obtain ⟨h2, e⟩ := List.getElem?_eq_some_iff.1 (upK_get h)
  conv => lhs; rw [← e]
  exact List.set_getElem_self h2
theorem upC_low {c : UInt8} (h1 : (97 : Int) ≤ (c.toNat : Nat)) (h2 : ((c.toNat : Nat) : Int) ≤ 122) : (((upC c).toNat : Nat) : Int) = (c.toNat : Nat) - 32 := by
  have H : ∀ k : Fin 256, 97 ≤ k.val → k.val ≤ 122 → (upC (UInt8.ofNat k.val)).toNat + 32 = k.val := by decide +kernel
  have := H ⟨c.toNat, c.toNat_lt⟩ (by show 97 ≤ c.toNat; omega) (by show c.toNat ≤ 122; omega)
  simp only [UInt8.ofNat_toNat] at this
  omega
theorem upC_not {c : UInt8} (h : ¬ ((97 : Int) ≤ (c.toNat : Nat) ∧ ((c.toNat : Nat) : Int) ≤ 122)) : upC c = c := by
  have H : ∀ k : Fin 256, ¬ (97 ≤ k.val ∧ k.val ≤ 122) → upC (UInt8.ofNat k.val) = UInt8.ofNat k.val := by decide +kernel
  have := H ⟨c.toNat, c.toNat_lt⟩ (by show ¬ (97 ≤ c.toNat ∧ c.toNat ≤ 122); omega)
  simpa only [UInt8.ofNat_toNat] using this
set_option maxHeartbeats 4000000 in
set_option maxRecDepth 100000 in
/-- cardexref08.upper -/
theorem rupper_any (s : ByteArray) (w : World) (hs : s.size ≤ 1000000000000) :
    Calls Tryz.prog 19 #[.string s] w fun e w' => e = .returned (.string (bts (up s.data.toList))) ∧ Below w.heap.size w w' := by
  have hcv := Lib.run_convert_string_bytes (P := Tryz.prog) w 9 35 5 s Tryz.underlying9 Tryz.underlying35 Tryz.underlying5
  obtain ⟨cap, hcap⟩ : ∃ cap, grownCap w s.size 0 5 = cap := ⟨_, rfl⟩
  rw [hcap] at hcv
  obtain ⟨W3, hW3⟩ : ∃ W3, Lib.bytesWorld w 5 s = W3 := ⟨_, rfl⟩
  have b3 : Below w.heap.size w W3 := by rw [← hW3]; exact Lib.bytesWorld_below _ _ _
  have r3 := Row8.new w s
  rw [hW3] at hcv r3
  obtain ⟨g, hg⟩ : ∃ g, w.heap.size = g := ⟨_, rfl⟩
  have HGE := Lib.hid hg
  rw [hg] at hcv b3 r3
  obtain ⟨l, hl⟩ : ∃ l, s.data.toList = l := ⟨_, rfl⟩
  have hsz : s.size = l.length := by rw [Lib.size_eq, hl]
  rw [hl] at r3 ⊢
  obtain ⟨n, hn⟩ : ∃ n, s.size = n := ⟨_, rfl⟩
  have HN : Hid (l.length = n) := by unfold Hid; rw [← hsz, hn]
  rw [hn] at hcv
  have R0 : Hid (Row8 W3 g (upK l 0)) := r3
  have B0 : Hid (Below g w W3) := b3
  have hn2 : n ≤ 1000000000000 := by omega
  clear hcap hW3 b3 r3 hl hsz hg hn
  go_enter Tryz.func19, Tryz.ntmps19
  go_wp2_with fail
  go_loopw [4] (fun iv wr => ∃ (k : Nat), iv = .int .i64 k ∧ k ≤ n ∧ Hid (Row8 wr g (upK l k)) ∧ Hid (Below g w wr)) (fun iv _ => n - (intOf iv).toNat)
  case atStart => exact ⟨0, rfl, Nat.zero_le _, R0, B0⟩
  case round =>
    obtain ⟨k, rfl, hk, HR, HB⟩ := hrel
    by_cases hlt : k < n
    · obtain ⟨c, hc⟩ : ∃ c, l[k]? = some c := ⟨_, List.getElem?_eq_getElem (by rw [HN.out]; exact hlt)⟩
      have hc2 := HR.out.cell (upK_get hc)
      have hf := HR.out.free (j := k) (by rw [upK_len, HN.out]; exact hlt)
      by_cases hm : (97 : Int) ≤ (c.toNat : Nat) ∧ ((c.toNat : Nat) : Int) ≤ 122
      · obtain ⟨m1, m2⟩ := hm
        have hr := HR.out.put (k := k) (upC c)
        rw [← upK_next hc, upC_low m1 m2] at hr
        have HR2 := Lib.hid hr
        have HB2 : Hid (Below g w (wr.setCell ⟨g, k, none⟩ (.int .u8 ((c.toNat : Nat) - 32)))) := HB.out.setCell (p := ⟨g, k, none⟩) (Nat.le_refl _) _
        clear hr hc
        go_wp2_with fail
        go_roundw
        case rel => exact ⟨k + 1, by go_num, by omega, HR2, HB2⟩
        case measure => simp [intOf]; omega
      · have hr : Hid (Row8 wr g (upK l (k + 1))) := by unfold Hid; rw [upK_same hc (upC_not hm)]; exact HR.out
        clear hc
        by_cases m1 : (97 : Int) ≤ (c.toNat : Nat)
        · have m2 : ¬ ((c.toNat : Nat) : Int) ≤ 122 := fun h => hm ⟨m1, h⟩
          go_wp2_with fail
          go_roundw
          case rel => exact ⟨k + 1, by go_num, by omega, hr, HB⟩
          case measure => simp [intOf]; omega
        · go_wp2_with fail
          go_roundw
          case rel => exact ⟨k + 1, by go_num, by omega, hr, HB⟩
          case measure => simp [intOf]; omega
    · obtain rfl : k = n := by omega
      have hfin := HR.out
      rw [← HN.out, upK_full] at hfin
      have hbk := hfin.back (cap := cap) (show (up l).length = k by unfold up; rw [List.length_map, HN.out])
      clear hfin
      go_wp2_with fail
      go_ret
      exact ⟨rfl, by rw [HGE.out]; exact HB.out⟩
end Go.Proofs.YtphopnfnjnieaaaGreatDoor
