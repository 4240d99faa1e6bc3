/-
  THE TABLES of package ranges and of cardexref01.
-/
import Derived.Test.YtjclfpeccdlaoaaGreatDoorPrs
import Derived.Test.YtjclfpeccdlaoaaGreatDoorTbl
import Derived.Lib.Hide
import Derived.Deep.RegionLaw
namespace Go.Proofs.YtjclfpeccdlaoaaGreatDoor
open Go.RowKit Rg

/-- A call makes such a slice. -/
def Makes (f : FuncId) (l : List R) : Prop := ∀ w : World, Calls Tryz.prog f #[] w fun e w' => ∃ v, e = .returned v ∧ OwnR w.heap.size w' v l ∧ Below w.heap.size w w'

theorem made_of {w : World} {n : Nat} {cs : Array Value} {l : List R} (hn : l.length = n) (hc : cs.toList = prs l) (hm : n ≤ maxLen) :
    OwnR w.heap.size (w.alloc (.cells cs 81)) (.slice (some ⟨w.heap.size, 0, none⟩) n n) l ∧ Below w.heap.size w (w.alloc (.cells cs 81)) := ⟨OwnR.made hn hc hm, (Below.refl _ w).alloc (Nat.le_refl _) _⟩

set_option maxHeartbeats 1000000 in
theorem letters_any : Makes 81 lettersL := by
  intro w
  go_enter Tryz.func81, Tryz.ntmps81
  go_wp2_with fail
  go_ret
  exact ⟨_, rfl, made_of (l := lettersL) rfl (by unfold lettersL; simp only [prs_cons, prs_nil]) (by decide)⟩
set_option maxHeartbeats 1000000 in
theorem banned_any : Makes 47 bannedL := by
  intro w
  go_enter Tryz.func47, Tryz.ntmps47
  go_wp2_with fail
  go_ret
  exact ⟨_, rfl, made_of (l := bannedL) rfl (by unfold bannedL; simp only [prs_cons, prs_nil]) (by decide)⟩
set_option maxHeartbeats 1000000 in
theorem rightLeft_any : Makes 82 rightLeftL := by
  intro w
  go_enter Tryz.func82, Tryz.ntmps82
  go_wp2_with fail
  go_ret
  exact ⟨_, rfl, made_of (l := rightLeftL) rfl (by unfold rightLeftL; simp only [prs_cons, prs_nil]) (by decide)⟩
set_option maxHeartbeats 1000000 in
theorem gone_any : Makes 100 goneL := by
  intro w
  go_enter Tryz.func100, Tryz.ntmps100
  go_wp2_with fail
  go_ret
  exact ⟨_, rfl, made_of (l := goneL) rfl (by unfold goneL; simp only [prs_cons, prs_nil]) (by decide)⟩

/-- the ends, one by one -/
def endsL (l : List R) : List Value := l.flatMap fun r => [.int .i64 r.1, .int .i64 r.2]
/-- an append of one range, in a region that draws its order -/
theorem step_push {ops : Array Oper} {o : Oper} {a : Act} {K : Act → World → Prop} {Q : Exit → Act → World → Prop} {E : Prop} (hgd : o.guard = none) (s x : Operand) (ho : o.op = .call { callee := .builtin .append, args := #[s, x], argTypes := #[62, 62] })
    (B : Nat) (v : Value) (l : List R) (p q : Int) (w0 : World) (hs : a.eval s = v) (hown : OwnR B w0 v l) (hx : a.eval x = .slice (some ⟨w0.heap.size, 0, none⟩) 1 1) (hn : l.length ≤ 1000000000000) (hB : B ≤ w0.heap.size)
    (h : ∀ v' w', OwnR B w' v' (l ++ [(p, q)]) → Below B w0 w' → K (a.put o.dst v') w') : if Region.wanted o (yielded ops a.tmps) = true then Oper.wp Tryz.prog o a (w0.alloc (.cells #[.int .i64 p, .int .i64 q] 81)) K Q else E := by
  have hw : Region.wanted o (yielded ops a.tmps) = true := by simp [Region.wanted, hgd]
  rw [if_pos hw]
  obtain ⟨i0, hi, hz0, hz1, hz2⟩ := info_parts infoRng
  have hown' : w0.ownsRow B 81 2 v l.length (prs l) := hown
  refine wp_append_own _ s x 62 ho B 81 i0 _ 2 16 Tryz.underlying62 hi hz0 hz1 hz2 rfl (by decide) v l.length (prs l) hs (hown'.alloc _) ⟨w0.heap.size, 0, none⟩ 1 1 [.int .i64 p, .int .i64 q] hx rfl ?_ ?_ ?_ (by omega) (by simp; omega) ?_
  · intro j y hj
    rw [add_at, cell_of_row _ _ _ #[_, _] _ (0, 0) (heap_alloc_new w0 _)]
    rw [Nat.zero_add]
    simpa using hj
  · intro y hy
    simp at hy
    rcases hy with rfl | rfl <;> rfl
  · unfold maxLen; omega
  · intro v' w' hown2 hg _
    refine h v' w' ?_ (((Below.refl B w0).alloc hB _).grown hg (by simp; omega) (fun j hj => (World.ownsRow.lt hown' j hj).1))
    unfold OwnR
    rw [prs_append, prs_one, List.length_append, List.length_singleton]
    exact hown2
set_option maxHeartbeats 4000000 in
theorem table_any (g n : Nat) (l : List R) (w : World) (hk : Bk w g 3 (prs l).toArray) (hn : l.length * 2 = n) (hl : n ≤ 1000) :
    Calls Tryz.prog 139 #[.slice (some ⟨g, 0, none⟩) n n] w fun e w' => ∃ v, e = .returned v ∧ OwnR w.heap.size w' v l ∧ Below w.heap.size w w' := by
  have HK := Lib.hid hk
  have HN := Lib.hid hn
  clear hk hn
  go_enter Tryz.func139, Tryz.ntmps139
  go_wp2_with fail
  go_loopw [3, 4] (fun vv i wr => ∃ (k j : Nat) (v : Value), vv = v ∧ k ≤ l.length ∧ j = k * 2 ∧ i = .int .i64 j ∧ Below w.heap.size w wr ∧ Hid (OwnR w.heap.size wr v (l.take k))) (fun _ i _ => n - (intOf i).toNat)
  case atStart => exact ⟨0, 0, _, rfl, Nat.zero_le _, rfl, rfl, Below.refl _ _, OwnR.nil _ _⟩
  case round =>
    obtain ⟨k, j, v, hv, hk, hj, rfl, bw, ho⟩ := hrel
    have hv2 := hv.symm
    clear hv
    subst hv2
    have hsw := bw.size
    have hsl := ho.out.slice
    rw [List.length_take, Nat.min_eq_left hk] at hsl
    obtain ⟨A, cap, rfl⟩ := hsl
    by_cases hlt : k < l.length
    · obtain ⟨⟨p, q⟩, hr⟩ : ∃ r, l[k]? = some r := ⟨_, List.getElem?_eq_getElem hlt⟩
      have hp := prs_get hr
      have c0 := (HK.out.below bw HK.out.lt).cell j
      have c1 := (HK.out.below bw HK.out.lt).cell (j + 1)
      rw [List.getElem?_toArray, hj] at c0 c1
      rw [hp.1] at c0
      rw [hp.2] at c1
      rw [← hj] at c0 c1
      have htk := Lib.hid (show l.take (k + 1) = l.take k ++ [(p, q)] by rw [List.take_add_one, hr]; rfl)
      obtain ⟨m, hm, hmj⟩ : ∃ m : Nat, IntKind.i64.wrap ((j : Int) + 1) = (m : Int) ∧ j + 1 = m := ⟨j + 1, by have := HN.out; rw [IntKind.wrap_i64]; omega, rfl⟩
      rw [hmj] at c1
      have hjn : m < n := by have := HN.out; omega
      have hjn2 : j < n := by omega
      have hlen : (l.take k).length ≤ 1000 := by rw [List.length_take]; have := HN.out; omega
      have hj2 : Hid (j + 2 = (k + 1) * 2) := Lib.hid (by omega)
      have hkl : k + 1 ≤ l.length := hlt
      have HL := Lib.hid hlen
      clear hr hp hj hlt hlen hmj
      go_wp2_with fail
      have b2 : Below wr.heap.size wr wr.drew := (Below.refl _ wr).drew
      have ho2 : Hid (OwnR w.heap.size wr.drew (.slice A k cap) (l.take k)) := ho.out.below b2
      have hs2 : w.heap.size ≤ wr.drew.heap.size := hsw
      have HB2 := Lib.hid b2
      clear b2
      go_region_law (refine step_push rfl _ _ rfl w.heap.size (.slice A k cap) (l.take k) p q wr.drew rfl ho2.out rfl (by have := HL.out; omega) hs2 ?_; intro v3 w3 o3 b3)
      all_goals
        have o3' : Hid (OwnR w.heap.size w3 v3 (l.take (k + 1))) := by unfold Hid; rw [htk.out]; exact o3
        have b4 := bw.trans ((HB2.out.mono hsw).trans b3)
        clear o3 b3
        go_wp2_with fail
        go_roundw
        case rel => exact ⟨k + 1, j + 2, _, rfl, hkl, hj2.out, by go_num, b4, o3'⟩
        case measure => simp [intOf]; omega
    · have hke : k = l.length := by omega
      have hjn : j = n := by have := HN.out; omega
      have ho2 : Hid (OwnR w.heap.size wr (.slice A k cap) l) := by
        have h := ho.out
        rw [hke, List.take_length] at h
        rw [hke]
        exact h
      subst hjn
      clear hke hj
      go_wp2_with fail
      go_ret
      exact ⟨_, rfl, ho2.out, bw⟩
end Go.Proofs.YtjclfpeccdlaoaaGreatDoor
