/-
  AN APPEND OF ONE NUMBER to a slice that the call has made.
-/
import Derived.Test.YtbkfmbkamocllaaDoorTrE
import Derived.Laws.AppendOwn
namespace Go.Proofs.YtbkfmbkamocllaaDoor
open Go.RowKit Tk Tr

theorem Owned.slice {B : Nat} {w : World} {v : Value} {x : List Nat} (h : Owned B w v x) : ∃ A cap, v = .slice A x.length cap := by
  rcases h.2 with ⟨rfl, h0⟩ | ⟨g, cap, cur, rfl, _⟩
  · exact ⟨none, 0, by rw [h0]⟩
  · exact ⟨_, _, rfl⟩
theorem infoInt2 : (Tryd.prog.info? 3).map (fun i => (i.zero, i.size, i.bytes)) = some (some (.int .i64 0), 1, 8) := by kernel_rfl
/-- An append of one number. -/
theorem push_int {ops : Array Oper} {rest : List Oper} {o : Oper} {a : Act} {Q : Exit → Act → World → Prop} (hgd : o.guard = none) (s x : Operand) (ho : o.op = .call { callee := .builtin .append, args := #[s, x], argTypes := #[36, 36] })
    (B : Nat) (v : Value) (l : List Nat) (c : Nat) (z : Int) (hz : z = (c : Int)) (w0 : World) (hs : a.eval s = v) (hown : Owned B w0 v l) (hx : a.eval x = .slice (some ⟨w0.heap.size, 0, none⟩) 1 1) (hl : l.length ≤ 2000000000) (hB : B ≤ w0.heap.size)
    (h : ∀ v' w', Owned B w' v' (l ++ [c]) → Below B w0 w' → (∀ k cs t, Bk w0 k t cs → t ≠ 3 → Bk w' k t cs) → wpList Tryd.prog ops Q rest (a.put o.dst v') w') : wpList Tryd.prog ops Q (o :: rest) a (w0.alloc (.cells #[.int .i64 z] 3)) := by
  subst hz
  obtain ⟨i0, hi, hz0, hz1, hz2⟩ := info_parts infoInt
  have hown' : w0.ownsRow B 3 1 v l.length (ints l) := hown
  refine wpList_append_own _ hgd s x 36 ho B 3 i0 _ 1 8 Tryd.underlying36 hi hz0 hz1 hz2 rfl (by decide) v l.length (ints l) hs (hown'.alloc _) ⟨w0.heap.size, 0, none⟩ 1 1 [.int .i64 (c : Nat)] hx rfl ?_ ?_ ?_ (by omega) (by simp; omega) ?_
  · intro j u hj
    rw [add_at, cell_of_row _ _ _ #[_] _ (0, 0) (heap_alloc_new w0 _), Nat.zero_add]
    simpa using hj
  · intro u hu
    simp at hu
    subst hu
    rfl
  · unfold maxLen; omega
  · intro v' w' hown2 hg _
    refine h v' w' ?_ (((Below.refl B w0).alloc hB _).grown hg (by simp; omega) (fun j hj => (World.ownsRow.lt hown' j hj).1)) (fun k cs t hk ht => ?_)
    · unfold Owned
      rw [ints_snoc, List.length_append]
      exact hown2
    · refine (hg.block k (by simp; have := hk.lt; omega) (fun e => ?_)).trans (hk.alloc _)
      obtain ⟨ds, hd⟩ := row_block hown' k e.symm
      exact Bk.type_ne hk hd ht rfl
end Go.Proofs.YtbkfmbkamocllaaDoor
