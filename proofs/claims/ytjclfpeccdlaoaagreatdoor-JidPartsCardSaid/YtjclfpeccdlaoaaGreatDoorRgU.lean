/-
  cardexref01's tables.
-/
import Derived.Test.YtjclfpeccdlaoaaGreatDoorRgT
namespace Go.Proofs.YtjclfpeccdlaoaaGreatDoor
open Go.RowKit Rg

theorem prs_array {l : List R} {cs : Array Value} (h : cs.toList = prs l) : (prs l).toArray = cs := by rw [← h]
set_option maxHeartbeats 1000000 in
theorem refLetters_any : Makes 117 lettersL := by
  intro w
  have b1 : Below w.heap.size w (w.alloc (.cells (prs lettersL).toArray 3)) := (Below.refl _ w).alloc (Nat.le_refl _) _
  have HT := Lib.hid (table_any w.heap.size 14 lettersL (w.alloc (.cells (prs lettersL).toArray 3)) (Bk.new w _ _) rfl (by decide))
  have e : (prs lettersL).toArray = #[.int .i64 65, .int .i64 90, .int .i64 97, .int .i64 122, .int .i64 192, .int .i64 214, .int .i64 216, .int .i64 246, .int .i64 248, .int .i64 591, .int .i64 880, .int .i64 1327, .int .i64 19968, .int .i64 40959] := prs_array (by unfold lettersL; simp only [prs_cons, prs_nil])
  rw [e] at HT b1
  clear e
  generalize lettersL = L at HT ⊢
  go_enter Tryz.func117, Tryz.ntmps117
  go_wp2_with fail
  refine HT.out.mono ?_
  rintro e w2 ⟨v, rfl, o2, b2⟩
  have b3 := b1.trans (b2.mono (by simp))
  have o3 := Lib.hid (o2.weak (B' := w.heap.size) (by simp))
  clear o2 b2
  go_wp2_with fail
  go_ret
  exact ⟨_, rfl, o3.out, b3⟩
set_option maxHeartbeats 1000000 in
theorem refBanned_any : Makes 115 bannedL := by
  intro w
  have b1 : Below w.heap.size w (w.alloc (.cells (prs bannedL).toArray 3)) := (Below.refl _ w).alloc (Nat.le_refl _) _
  have HT := Lib.hid (table_any w.heap.size 22 bannedL (w.alloc (.cells (prs bannedL).toArray 3)) (Bk.new w _ _) rfl (by decide))
  have e : (prs bannedL).toArray = #[.int .i64 0, .int .i64 31, .int .i64 127, .int .i64 160, .int .i64 5760, .int .i64 5760, .int .i64 8192, .int .i64 8202, .int .i64 8232, .int .i64 8239, .int .i64 8287, .int .i64 8287, .int .i64 12288, .int .i64 12288, .int .i64 57344, .int .i64 63743, .int .i64 65533, .int .i64 65535, .int .i64 917504, .int .i64 917631, .int .i64 983040, .int .i64 1114111] := prs_array (by unfold bannedL; simp only [prs_cons, prs_nil])
  rw [e] at HT b1
  clear e
  generalize bannedL = L at HT ⊢
  go_enter Tryz.func115, Tryz.ntmps115
  go_wp2_with fail
  refine HT.out.mono ?_
  rintro e w2 ⟨v, rfl, o2, b2⟩
  have b3 := b1.trans (b2.mono (by simp))
  have o3 := Lib.hid (o2.weak (B' := w.heap.size) (by simp))
  clear o2 b2
  go_wp2_with fail
  go_ret
  exact ⟨_, rfl, o3.out, b3⟩
set_option maxHeartbeats 1000000 in
theorem refRightLeft_any : Makes 118 rightLeftL := by
  intro w
  have b1 : Below w.heap.size w (w.alloc (.cells (prs rightLeftL).toArray 3)) := (Below.refl _ w).alloc (Nat.le_refl _) _
  have HT := Lib.hid (table_any w.heap.size 6 rightLeftL (w.alloc (.cells (prs rightLeftL).toArray 3)) (Bk.new w _ _) rfl (by decide))
  have e : (prs rightLeftL).toArray = #[.int .i64 1424, .int .i64 1535, .int .i64 1536, .int .i64 1791, .int .i64 64285, .int .i64 64335] := prs_array (by unfold rightLeftL; simp only [prs_cons, prs_nil])
  rw [e] at HT b1
  clear e
  generalize rightLeftL = L at HT ⊢
  go_enter Tryz.func118, Tryz.ntmps118
  go_wp2_with fail
  refine HT.out.mono ?_
  rintro e w2 ⟨v, rfl, o2, b2⟩
  have b3 := b1.trans (b2.mono (by simp))
  have o3 := Lib.hid (o2.weak (B' := w.heap.size) (by simp))
  clear o2 b2
  go_wp2_with fail
  go_ret
  exact ⟨_, rfl, o3.out, b3⟩
set_option maxHeartbeats 1000000 in
theorem refGone_any : Makes 114 goneL := by
  intro w
  have b1 : Below w.heap.size w (w.alloc (.cells (prs goneL).toArray 3)) := (Below.refl _ w).alloc (Nat.le_refl _) _
  have HT := Lib.hid (table_any w.heap.size 14 goneL (w.alloc (.cells (prs goneL).toArray 3)) (Bk.new w _ _) rfl (by decide))
  have e : (prs goneL).toArray = #[.int .i64 173, .int .i64 173, .int .i64 847, .int .i64 847, .int .i64 6150, .int .i64 6150, .int .i64 8203, .int .i64 8205, .int .i64 8288, .int .i64 8288, .int .i64 65024, .int .i64 65039, .int .i64 65279, .int .i64 65279] := prs_array (by unfold goneL; simp only [prs_cons, prs_nil])
  rw [e] at HT b1
  clear e
  generalize goneL = L at HT ⊢
  go_enter Tryz.func114, Tryz.ntmps114
  go_wp2_with fail
  refine HT.out.mono ?_
  rintro e w2 ⟨v, rfl, o2, b2⟩
  have b3 := b1.trans (b2.mono (by simp))
  have o3 := Lib.hid (o2.weak (B' := w.heap.size) (by simp))
  clear o2 b2
  go_wp2_with fail
  go_ret
  exact ⟨_, rfl, o3.out, b3⟩
end Go.Proofs.YtjclfpeccdlaoaaGreatDoor
