/-
  PrepWays.
-/
import Derived.Test.YtpelkkokkclclaaDoorPrW
import Derived.Test.YtpelkkokkclclaaDoorUint
import Derived.Laws.MakeOwn
import Derived.Laws.Cover4
namespace Go.Proofs.YtpelkkokkclclaaDoor
open Go.RowKit Rg Tx

/-! ### rows of runes -/
def rn (l : List Nat) : Array Value := (l.map fun c => Value.int .i32 (c : Nat)).toArray
theorem rn_get {l : List Nat} {i : Nat} (h : i < l.length) : (rn l)[i]? = some (.int .i32 (l.getD i 0 : Nat)) := by
  simp [rn, List.getD, List.getElem?_eq_getElem h]
theorem rn_set (l : List Nat) (i c : Nat) : (rn l).setIfInBounds i (.int .i32 (c : Nat)) = rn (l.set i c) := by
  simp [rn, List.map_set]
theorem foldl_flat (xs : List Nat) : ∀ s : ByteArray, ((xs.map fun c : Nat => (c : Int)).foldl (fun r n => r ++ Utf8.encode n) s).data.toList = s.data.toList ++ flat xs := by
  induction xs with
  | nil => intro s; rw [flat_nil]; simp
  | cons x xs ih =>
    intro s
    rw [List.map_cons, List.foldl_cons, ih, cat_list, enc_model, flat_cons, List.append_assoc]
theorem runesBytes_flat (xs : List Nat) : (runesBytes (xs.map fun c : Nat => (c : Int))).data.toList = flat xs := by
  unfold runesBytes
  rw [foldl_flat]
  simp
/-- 'string(l)' of runes that lie in a block. -/
theorem runesStr {P : Program} {tr ts te : TypeId} (hr : P.underlying tr = some (.slice te)) (he : P.underlying te = some (.int .i32)) (hs : P.underlying ts = some .string) (W : World) (g n cap : Nat) (xs : List Nat) (hn : xs.length = n)
    (hb : Bk W g te (rn xs)) : ∃ X : ByteArray, (convert tr ts (.slice (some ⟨g, 0, none⟩) n cap)).run P W = .ok (.string X) W ∧ X.data.toList = flat xs := by
  refine ⟨runesBytes (xs.map fun c : Nat => (c : Int)), ?_, runesBytes_flat xs⟩
  have h := run_convert_runes (P := P) W tr ts te ⟨g, 0, none⟩ n cap (xs.map fun c : Nat => (c : Int)) (by rw [List.length_map, hn]; exact Nat.le_refl _) hr he hs (fun j hj => by
    rw [List.length_map] at hj
    have e : (⟨g, 0, none⟩ : Addr).add j = ⟨g, j, none⟩ := by unfold Addr.add; split <;> simp_all
    rw [e, hb.cell, rn_get hj]
    simp [List.getD, List.getElem?_eq_getElem hj])
  rwa [List.take_of_length_le (by rw [List.length_map, hn]; exact Nat.le_refl _)] at h

/-! ### letters of both ways -/
def rightC (i : Nat) : Nat := [1488, 1489, 1576, 64290].getD (i % 4) 0
def rowW (N k : Nat) : List Nat := (List.range N).map fun i => if i < k then rightC i else 0
theorem rowW_len (N k : Nat) : (rowW N k).length = N := by simp [rowW]
theorem rowW_next {N k : Nat} (_h : k < N) : (rowW N k).set k (rightC k) = rowW N (k + 1) := by
  apply List.ext_getElem
  · simp [rowW]
  · intro i h1 h2
    simp only [rowW, List.length_set, List.length_map, List.length_range] at h1
    rw [List.getElem_set]
    simp only [rowW, List.getElem_map, List.getElem_range]
    by_cases hi : k = i
    · subst hi
      simp
    · rw [if_neg hi]
      by_cases h3 : i < k
      · rw [if_pos h3, if_pos (by omega)]
      · rw [if_neg h3, if_neg (by omega)]
theorem rowW_zero (N : Nat) : rowW N 0 = List.replicate N 0 := by
  apply List.ext_getElem
  · simp [rowW]
  · intro i h1 h2
    simp [rowW]
def waysL (N a t : Nat) : List Nat := if t = 1 then (rowW N N).set a 97 else if t = 2 then (rowW N N).set a 55 else rowW N N
def waysE (N a t : Nat) : Nat := if t = 1 then (if N = 1 then 0 else 16) else if t = 2 then (if N = 1 then 0 else if a = 0 ∨ a = N - 1 then 16 else 0) else 0
def fineB (c : Nat) : Bool := decide (c < 55296) && decide (32 ≤ c) || (decide (57343 < c) && decide (c < 65534))
theorem fineB_fine {c : Nat} (h : fineB c = true) : Pr.Fine c := by
  simp only [fineB, Bool.or_eq_true, Bool.and_eq_true, decide_eq_true_eq] at h
  refine ⟨?_, Pr.okc_of (by omega) (by omega)⟩
  unfold sane
  omega
def okW (N a t : Nat) : Bool := (waysL N a t).all fineB && (Pr.mapL true (waysL N a t) == waysL N a t) && (Pr.mapL false (waysL N a t) == waysL N a t) && !(waysL N a t).any (Pr.wrong 1) && !(waysL N a t).any (Pr.wrong 2) && !(waysL N a t).any (Pr.wrong 3) && (Pr.wayB (waysL N a t) == (waysE N a t == 0))
set_option maxRecDepth 100000 in
theorem okW_all : ∀ N, N < 7 → ∀ a, a < N → ∀ t, t < 3 → okW N a t = true := by decide +kernel
theorem ways_len (N a t : Nat) : (waysL N a t).length = N := by
  unfold waysL
  repeat' split
  all_goals simp [rowW_len]
/-- What each of the three answers. -/
theorem ways_prep {N a t : Nat} (hN : N < 7) (ha : a < N) (ht : t < 3) {k : Nat} (hk : k = 1 ∨ k = 2 ∨ k = 3) : (Pr.prepL k (flat (waysL N a t))).2 = waysE N a t := by
  have h := okW_all N hN a ha t ht
  simp only [okW, Bool.and_eq_true, Bool.not_eq_true', beq_iff_eq] at h
  obtain ⟨⟨⟨⟨⟨⟨h1, h2⟩, h3⟩, h4⟩, h5⟩, h6⟩, h7⟩ := h
  have hc := Pr.ch_fine (fun c hc => fineB_fine (List.all_eq_true.1 h1 c hc))
  have hm : Pr.mapL (k != 3) (waysL N a t) = waysL N a t := by
    rcases hk with rfl | rfl | rfl
    · exact h2
    · exact h2
    · exact h3
  have hw : (waysL N a t).any (Pr.wrong k) = false := by
    rcases hk with rfl | rfl | rfl
    · exact h4
    · exact h5
    · exact h6
  have he : waysE N a t = 0 ∨ waysE N a t = 16 := by
    unfold waysE
    repeat' split
    all_goals simp
  rw [Pr.prepL_ch hc, hm]
  rcases he with he | he
  · rw [Pr.prepC_kept hw (by rw [h7, he]; rfl), he]
  · rw [Pr.prepC_ways hw (by rw [h7, he]; rfl), he]
theorem made_zero : ∀ N, N < 7 → madeCells (Value.int .i32 0).cells (N * 1) = rn (rowW N 0) := by
  intro N h
  rcases (show N = 0 ∨ N = 1 ∨ N = 2 ∨ N = 3 ∨ N = 4 ∨ N = 5 ∨ N = 6 by omega) with rfl | rfl | rfl | rfl | rfl | rfl | rfl <;> kernel_rfl
theorem infoRune : (Tryd.prog.info? 21).map (fun i => (i.zero, i.size, i.bytes)) = some (some (.int .i32 0), 1, 4) := by kernel_rfl
end Go.Proofs.YtpelkkokkclclaaDoor
