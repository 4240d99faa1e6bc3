/-
  THE LAWS OF PACKAGE csv (stage 4): rows laid out by a law itself; that the package is awake.
-/
import Derived.Test.YtakfcfjamgaekaaDoorCsvX
import Derived.Test.YtakfcfjamgaekaaDoorHolds
namespace Go.Proofs.YtakfcfjamgaekaaDoor
open Go.RowKit Tx

theorem read_ok (s : ByteArray) (m : List (List (List UInt8))) (w : World) (hO : Okw w) (hs : s.size ≤ 140737488355328) (h : readL s.data.toList = .ok m) :
    Calls Tryd.prog 9 #[.string s] w fun e w' => (∃ v, e = .returned (.tuple #[v, .int .i64 0]) ∧ ReadTT w'.heap.size w' v (m.map sts)) ∧ Below w.heap.size w w' :=
  (read_any s w hO hs).mono fun _ _ h' => ⟨(ReadOut.ok h).1 h'.1, h'.2⟩
theorem read_err (s : ByteArray) (k : Int) (w : World) (hO : Okw w) (hs : s.size ≤ 140737488355328) (h : readL s.data.toList = .error k) :
    Calls Tryd.prog 9 #[.string s] w fun e w' => e = .returned (.tuple #[.slice none 0 0, .int .i64 k]) ∧ Below w.heap.size w w' :=
  (read_any s w hO hs).mono fun _ _ h' => ⟨(ReadOut.err h).1 h'.1, h'.2⟩
theorem btss_sts (m : List (List (List UInt8))) : btss (m.map sts) = m := by
  unfold btss
  rw [List.map_map]
  conv => rhs; rw [← List.map_id m]
  exact List.map_congr_left fun x _ => bts_sts x
theorem sts_btss (m : List (List ByteArray)) : (btss m).map sts = m := by
  unfold btss
  rw [List.map_map]
  conv => rhs; rw [← List.map_id m]
  exact List.map_congr_left fun x _ => sts_bts x
/-- strings that lie in a new block -/
theorem made_strs (w : World) (xs : List ByteArray) (cap n : Nat) (cs : Array Value) (hn : xs.length = n) (hc : ∀ (i : Nat) b, xs[i]? = some b → cs[i]? = some (.string b)) :
    ReadT (w.heap.size + 1) (w.alloc (.cells cs 9)) (.slice (some ⟨w.heap.size, 0, none⟩) n cap) xs := by
  have := ReadT.made (w := w.alloc (.cells cs 9)) (g := w.heap.size) (cap := cap) (n := n) (o := 0) (x := xs) hn (by simp) (fun i b hb => by
    rw [Nat.zero_add, cell_of_row _ _ i _ 9 (0, 0) (heap_alloc_new w _)]
    exact hc i b hb)
  rwa [World.size_alloc] at this
/-- rows that lie in a new block -/
theorem made_rows (w : World) (m : List (List ByteArray)) (cap n : Nat) (cs : Array Value) (hn : m.length = n) (hc : ∀ (i : Nat) xs, m[i]? = some xs → ∃ u, cs[i]? = some u ∧ ReadT w.heap.size w u xs) :
    ReadTT (w.heap.size + 1) (w.alloc (.cells cs 25)) (.slice (some ⟨w.heap.size, 0, none⟩) n cap) m := by
  have := ReadTT.made (w := w.alloc (.cells cs 25)) (g := w.heap.size) (cap := cap) (n := n) (m := m) hn (by simp) (fun i xs hb => by
    obtain ⟨u, h1, h2⟩ := hc i xs hb
    refine ⟨u, ?_, ?_⟩
    · rw [cell_of_row _ _ i _ 25 (0, 0) (heap_alloc_new w _)]
      exact h1
    · exact (h2.below ((Below.refl _ w).alloc (Nat.le_refl _) _)).more (by simp))
  rwa [World.size_alloc] at this

set_option maxHeartbeats 2000000 in
set_option maxRecDepth 100000 in
theorem awake_any (w : World) (hO : Okw w) : Calls Tryd.prog 7 #[] w (Holds w) := by
  have r0 : readL [97, 44, 34, 98, 34, 34, 34, 13, 10] = .ok [[[97], [98, 34]]] := by kernel_rfl
  have w0 : writeL [[[97], [98, 34]]] = [97, 44, 34, 98, 34, 34, 34, 13, 10] := by decide +kernel
  have HR := Lib.hid (fun (W : World) h => read_ok ⟨#[97, 44, 34, 98, 34, 34, 34, 13, 10]⟩ _ W h (by decide) r0)
  have HRw := Lib.hid rows_any
  have hW := fun (B : Nat) (v : Value) (W : World) h1 h2 h3 => write_any B v ([[[97], [98, 34]]].map sts) W h1 h2 h3 (by rw [btss_sts]; decide)
  rw [btss_sts, w0] at hW
  have HW := Lib.hid hW
  have HOK := Lib.hid (fun (W : World) (h : Below w.heap.size w W) => hO.below h)
  have HO := Lib.hid hO
  clear r0 w0 hW hO
  go_enter Tryd.func7, Tryd.ntmps7
  go_wp2_with fail
  refine (HR.out w HO.out).mono ?_
  rintro e w1 ⟨⟨v, rfl, hv⟩, b1⟩
  have HV := Lib.hid hv
  clear hv
  go_wp2_with fail
  have a1 : ReadT (w1.heap.size + 1) (w1.alloc (.cells #[.string ⟨#[97]⟩, .string ⟨#[98, 34]⟩] 9)) (.slice (some ⟨w1.heap.size, 0, none⟩) 2 2) [⟨#[97]⟩, ⟨#[98, 34]⟩] :=
    made_strs w1 _ 2 2 _ rfl fun i b h => by
      match i, h with
      | 0, h => cases h; rfl
      | 1, h => cases h; rfl
      | i + 2, h => simp at h
  have a2 := made_rows (w1.alloc (.cells #[.string ⟨#[97]⟩, .string ⟨#[98, 34]⟩] 9)) [[⟨#[97]⟩, ⟨#[98, 34]⟩]] 1 1 #[.slice (some ⟨w1.heap.size, 0, none⟩) 2 2] rfl fun i xs h => by
    match i, h with
    | 0, h => cases h; exact ⟨_, rfl, by rw [World.size_alloc]; exact a1⟩
    | i + 1, h => simp at h
  rw [World.size_alloc] at a2
  have b2 : Below w1.heap.size w1 ((w1.alloc (.cells #[.string ⟨#[97]⟩, .string ⟨#[98, 34]⟩] 9)).alloc (.cells #[.slice (some ⟨w1.heap.size, 0, none⟩) 2 2] 25)) :=
    ((Below.refl _ w1).alloc (Nat.le_refl _) _).alloc (by simp) _
  have hv2 := (HV.out.below b2).more (show w1.heap.size ≤ w1.heap.size + 1 + 1 by omega)
  refine (HRw.out _ _ _ _ _ _ hv2 a2 (by simp) (by decide) (by decide) (by decide) (by decide)).mono ?_
  rintro e w3 ⟨rfl, b3⟩
  rw [show decide ([[[97], [98, 34]]].map sts = [[(⟨#[97]⟩ : ByteArray), ⟨#[98, 34]⟩]]) = true from decide_eq_true rfl]
  have b4 : Below w1.heap.size w1 w3 := b2.trans (b3.mono (by simp; omega))
  have HV3 := Lib.hid (HV.out.below b4)
  have hs1 := b1.size
  have hs4 := b4.size
  have c3 : Below w.heap.size w w3 := b1.trans (b4.mono hs1)
  clear a1 a2 b2 b3 hv2
  go_wp2_with fail
  refine (HW.out _ _ _ (HOK.out _ c3).2 HV3.out hs4).mono ?_
  rintro e w4 ⟨rfl, b5⟩
  go_wp2_with fail
  go_ret
  exact ⟨rfl, c3.trans (b5.mono c3.size)⟩
end Go.Proofs.YtakfcfjamgaekaaDoor
