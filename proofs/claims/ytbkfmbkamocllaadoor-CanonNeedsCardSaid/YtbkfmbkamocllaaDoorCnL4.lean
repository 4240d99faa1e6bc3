/-
  The law CanonNeeds: one node or attribute turned wrong, and the whole is not right.
-/
import Derived.Test.YtbkfmbkamocllaaDoorCnH
import Derived.Test.YtbkfmbkamocllaaDoorHolds
import Derived.Deep.Cut
import Derived.Deep.DeepCutAuto
import Derived.Deep.CutBlock
import Derived.Deep.RegionWith
import Derived.Deep.RegionLaw
import Derived.Deep.RegionHeld3
namespace Go.Proofs.YtbkfmbkamocllaaDoor
open Go.RowKit Tk Tr Cn

theorem uintRem13 (c : Int) : ∃ n : Nat, (IntKind.u64.wrap c).tmod 13 = (n : Int) ∧ n < 13 := by
  have e : IntKind.u64.wrap c = c % 18446744073709551616 := by simp [IntKind.wrap, IntKind.bits, IntKind.signed]
  have h0 : 0 ≤ IntKind.u64.wrap c := by rw [e]; exact Int.emod_nonneg _ (by decide)
  rw [Int.tmod_eq_emod_of_nonneg h0]
  have h1 := Int.emod_nonneg (IntKind.u64.wrap c) (show (13 : Int) ≠ 0 by omega)
  have h2 := Int.emod_lt_of_pos (IntKind.u64.wrap c) (show (0 : Int) < 13 by omega)
  exact ⟨(IntKind.u64.wrap c % 13).toNat, by omega, by omega⟩
theorem ats_len : ∀ l : List Att, (ats l).length = l.length * 2
  | [] => by rw [ats_nil]; rfl
  | b :: l => by rw [ats_cons, List.length_cons, List.length_cons, ats_len l, List.length_cons]; omega
/-- an attribute written out in a block of its own -/
theorem RowA.lit {w : World} {g : Nat} {cs : Array Value} (l : List Att) (hk : Bk w g 29 cs) (n : Nat) (hn : l.length = n) (hm : n ≤ maxLen) (hcs : ats l = cs.toList) : RowA w (.slice (some ⟨g, 0, Option.none⟩) n n) l := by
  subst hn
  refine ⟨_, _, rfl, fun _ => ⟨g, cs, rfl, hk, ?_⟩, Nat.le_refl _, hm, fun h => by cases h⟩
  rw [hcs, List.take_of_length_le]
  rw [← hcs, ats_len]
  exact Nat.le_refl _
/-- What the switch leaves: nodes that can be read and are not right. -/
structure Bad (w : World) (l : Value) (wx : World) : Prop where
  out : ∃ ns, ReadM wx l ns ∧ rightB ns = false ∧ ns.length ≤ 20 ∧ (ns.map ownL).sum ≤ 1000000
  low : Below w.heap.size w wx
abbrev K4 (v : Value) (al : List Att) (p0 : Int) (n1 t1 s2 : List UInt8) (p3 : Int) (n3 t3 : List UInt8) : List (Nd × Value) :=
  [((p0, 0, [97], [], al, []), v), ((0, 0, n1, [], [], t1), .slice none 0 0), ((1, 0, [99], s2, [], [116]), .slice none 0 0), ((p3, 0, n3, [], [], t3), .slice none 0 0)]
abbrev kn (al : List Att) (p0 : Int) (n1 t1 s2 : List UInt8) (p3 : Int) (n3 t3 : List UInt8) : List Nd := [(p0, 0, [97], [], al, []), (0, 0, n1, [], [], t1), (1, 0, [99], s2, [], [116]), (p3, 0, n3, [], [], t3)]
abbrev C4 (Y : Nat) : Array Value := #[.int .i64 (-1), .int .i64 0, .string ⟨#[97]⟩, .string ⟨#[]⟩, .slice (some ⟨Y, 0, none⟩) 1 1, .string ⟨#[]⟩, .int .i64 0, .int .i64 0, .string ⟨#[98]⟩, .string ⟨#[]⟩, .slice none 0 0, .string ⟨#[]⟩, .int .i64 1, .int .i64 0, .string ⟨#[99]⟩, .string ⟨#[]⟩, .slice none 0 0, .string ⟨#[116]⟩, .int .i64 0, .int .i64 0, .string ⟨#[100]⟩, .string ⟨#[]⟩, .slice none 0 0, .string ⟨#[]⟩]
abbrev A4 : List Att := [([120], [49])]
/-- four nodes in their block, the attributes of the first in theirs -/
theorem four_own {w : World} {B Z : Nat} {v : Value} {cs : Array Value} {al : List Att} {p0 p3 : Int} {n1 t1 s2 n3 t3 : List UInt8} (hz : Bk w Z 32 cs) (hy : RowA w v al) (hB : B ≤ Z)
    (hcs : ((K4 v al p0 n1 t1 s2 p3 n3 t3).flatMap encN) = cs.toList) : OwnN B w (.slice (some ⟨Z, 0, none⟩) 4 4) ((K4 v al p0 n1 t1 s2 p3 n3 t3).map (·.1)) :=
  OwnN.lit _ hz hB 4 rfl (by decide) hcs fun k hk => by
    simp at hk
    rcases hk with rfl | rfl | rfl | rfl
    · exact hy
    · exact RowA.none _
    · exact RowA.none _
    · exact RowA.none _
theorem bad_row {w wx : World} {v : Value} {Z : Nat} {cs : Array Value} {al : List Att} {p0 p3 : Int} {n1 t1 s2 n3 t3 : List UInt8} (hz : Bk wx Z 32 cs) (hy : RowA wx v al) (hb : Below w.heap.size w wx)
    (hcs : ((K4 v al p0 n1 t1 s2 p3 n3 t3).flatMap encN) = cs.toList) (hbad : rightB (kn al p0 n1 t1 s2 p3 n3 t3) = false) (hsum : ((kn al p0 n1 t1 s2 p3 n3 t3).map ownL).sum ≤ 1000000) :
    Bad w (.slice (some ⟨Z, 0, none⟩) 4 4) wx :=
  ⟨⟨_, (four_own (B := 0) hz hy (Nat.zero_le _) hcs).readM, hbad, by simp, hsum⟩, hb⟩
theorem bad_four {w wx : World} {Y Z : Nat} {cs ca : Array Value} {al : List Att} {p0 p3 : Int} {n1 t1 s2 n3 t3 : List UInt8} (hz : Bk wx Z 32 cs) (hy : Bk wx Y 29 ca) (hb : Below w.heap.size w wx)
    (hcs : ((K4 (.slice (some ⟨Y, 0, none⟩) al.length al.length) al p0 n1 t1 s2 p3 n3 t3).flatMap encN) = cs.toList) (hca : ats al = ca.toList) (hm : al.length ≤ 20) (hbad : rightB (kn al p0 n1 t1 s2 p3 n3 t3) = false) (hsum : ((kn al p0 n1 t1 s2 p3 n3 t3).map ownL).sum ≤ 1000000) :
    Bad w (.slice (some ⟨Z, 0, none⟩) 4 4) wx := bad_row hz (RowA.lit al hy _ rfl (Nat.le_trans hm (by decide)) hca) hb hcs hbad hsum
/-- attributes written out in a block of their own may be appended to -/
theorem OwnA.lit {w : World} {g B : Nat} {cs : Array Value} (l : List Att) (hk : Bk w g 29 cs) (hB : B ≤ g) (n : Nat) (hn : l.length = n) (hm : n ≤ maxLen) (hcs : ats l = cs.toList) : OwnA B w (.slice (some ⟨g, 0, Option.none⟩) n n) l := by
  subst hn
  have hsz : cs.size = l.length * 2 := by rw [← Array.length_toList, ← hcs, ats_len]
  refine ⟨by rw [ats_len], .inr ⟨g, l.length, cs, rfl, hB, hk, Nat.le_refl _, hm, hsz, ?_⟩⟩
  rw [hcs, List.take_of_length_le (by rw [Array.length_toList, hsz]; exact Nat.le_refl _)]
theorem push_att6 {ops : Array Oper} {rest : List Oper} {o : Oper} {a : Act} {Q : Exit → Act → World → Prop} (hgd : o.guard = none) (s x : Operand) (ho : o.op = .call { callee := .builtin .append, args := #[s, x], argTypes := #[30, 30] })
    (B : Nat) (v : Value) (l : List Att) (p : Att) (x1 x2 : ByteArray) (h1 : bts p.1 = x1) (h2 : bts p.2 = x2) (w0 : World) (hs : a.eval s = v) (hown : OwnA B w0 v l) (hx : a.eval x = .slice (some ⟨w0.heap.size, 0, none⟩) 1 1) (hn : l.length ≤ 1000000000) (hB : B ≤ w0.heap.size)
    (h : ∀ v' w', OwnA B w' v' (l ++ [p]) → Below B w0 w' → (∀ k, k < w0.heap.size → some k ≠ v.ownBlock → w'.heap[k]? = w0.heap[k]?) → wpList Tryd.prog ops Q rest (a.put o.dst v') w') : wpList Tryd.prog ops Q (o :: rest) a (w0.alloc (.cells #[.string x1, .string x2] 29)) := by
  subst h1 h2
  obtain ⟨i0, hi, hz0, hz1, hz2⟩ := info_parts infoAtt
  have hown' : w0.ownsRow B 29 2 v l.length (ats l) := hown
  refine wpList_append_own _ hgd s x 30 ho B 29 i0 _ 2 32 Tryd.underlying30 hi hz0 hz1 hz2 rfl (by decide) v l.length (ats l) hs (hown'.alloc _) ⟨w0.heap.size, 0, none⟩ 1 1 [.string (bts p.1), .string (bts p.2)] hx rfl ?_ ?_ ?_ (by omega) (by simp; omega) ?_
  · intro j y hj
    rw [add_at, cell_of_row _ _ _ #[_, _] _ (0, 0) (heap_alloc_new w0 _)]
    rw [Nat.zero_add]
    simpa using hj
  · intro y hy
    simp at hy
    rcases hy with rfl | rfl <;> rfl
  · unfold maxLen; omega
  · intro v' w' hown2 hg _
    refine h v' w' ?_ (((Below.refl B w0).alloc hB _).grown hg (by simp; omega) (fun j hj => (World.ownsRow.lt hown' j hj).1)) (fun k hk hne => ?_)
    · unfold OwnA
      rw [ats_append, ats_one, List.length_append, List.length_singleton]
      exact hown2
    · rw [hg.block k (by simp; omega) hne]
      exact Below.heap_alloc w0 _ k hk
theorem OwnA.farN {B : Nat} {w : World} {v : Value} {l : List Att} (h : OwnA B w v l) {g : Nat} {cs : Array Value} (hb : Bk w g 32 cs) : some g ≠ v.ownBlock := by
  have h' : w.ownsRow B 29 2 v l.length (ats l) := h
  rcases h'.2 with ⟨rfl, h0⟩ | ⟨g', cap, cur, rfl, hg, hh, _⟩
  · intro e; cases e
  · intro e
    injection e with e
    subst e
    have h1 : some (Obj.cells cur 29 (0, 0)) = some (Obj.cells cs 32 (0, 0)) := hh.symm.trans hb
    injection h1 with h1
    injection h1 with _ h1
    exact absurd h1 (by decide)
/-- attributes stay where nodes are stored to -/
theorem keep_node {w : World} {Z : Nat} {cs : Array Value} (hz : Bk w Z 32 cs) (i : Nat) (u : Value) : KeepA w (w.setCell ⟨Z, i, none⟩ u) := fun g ca hg => by
  refine Bk.far hg (p := ⟨Z, i, none⟩) (fun e => ?_) u
  have e : g = Z := e
  subst e
  have h1 : some (Obj.cells ca 29 (0, 0)) = some (Obj.cells cs 32 (0, 0)) := hg.symm.trans hz
  injection h1 with h1
  injection h1 with _ h1
  exact absurd h1 (by decide)
theorem good4 (v : Value) : rightB ((K4 v A4 (-1) [98] [] [] 0 [100] []).map (·.1)) = true := (by decide +kernel : rightB [(-1, 0, [97], [], [([120], [49])], []), (0, 0, [98], [], [], []), (1, 0, [99], [], [], [116]), (0, 0, [100], [], [], [])] = true)
def letters (i : Nat) : List Att := (List.range i).map fun j => ([UInt8.ofNat (97 + j)], [])
theorem letters_len (i : Nat) : (letters i).length = i := by unfold letters; rw [List.length_map, List.length_range]
theorem letters_snoc (i : Nat) : letters (i + 1) = letters i ++ [([UInt8.ofNat (97 + i)], [])] := by unfold letters; rw [List.range_succ, List.map_append]; rfl
theorem byte_up {c : Int} (h0 : 0 ≤ c) : ∃ m : Nat, IntKind.u8.wrap (128 + c.tmod 128) = ((128 + m : Nat) : Int) ∧ m < 128 := by
  refine ⟨(c % 128).toNat, ?_, by omega⟩
  rw [Int.tmod_eq_emod_of_nonneg h0]
  simp [IntKind.wrap, IntKind.bits, IntKind.signed]
  omega
theorem high_bad : ∀ m : Nat, m < 128 → rightB (kn A4 (-1) [98] [] [] 0 [100] [UInt8.ofNat (128 + m)]) = false := by decide +kernel
theorem high_sum (y : UInt8) : ((kn A4 (-1) [98] [] [] 0 [100] [y]).map ownL).sum ≤ 1000000 := by simp [ownL, ownA]
theorem set_low {w wx : World} {Z : Nat} (hb : Below w.heap.size w wx) (hZ : w.heap.size ≤ Z) (i : Nat) (u : Value) : Below w.heap.size w (wx.setCell ⟨Z, i, none⟩ u) := hb.setCell (p := ⟨Z, i, none⟩) hZ u
set_option maxHeartbeats 4000000 in
set_option maxRecDepth 100000 in
theorem canonNeeds_any (a c : Int) (w : World) (hT : Tabs w) (hc0 : 0 ≤ c) :
    Calls Tryd.prog 4 #[.int .i64 a, .int .u8 c] w (Holds w) := by
  have HAW := Lib.hid (fun (W : World) (h : Below w.heap.size w W) => awakeC_any W (hT.below h))
  have HWR := Lib.hid (fun (u : Value) (ns : List Nd) (W : World) (h : Below w.heap.size w W) (ho : ReadM W u ns) (hl : ns.length ≤ 20) (hs : (ns.map ownL).sum ≤ 1000000) => write_any u ns W (hT.below h) ho (by omega) (by omega))
  have HRI := Lib.hid (fun (u : Value) (ns : List Nd) (W : World) (h : Below w.heap.size w W) (ho : ReadM W u ns) (hl : ns.length ≤ 20) (hs : (ns.map ownL).sum ≤ 1000000) => right_any u ns W (hT.below h) ho (by omega) (szN_of (by omega)))
  obtain ⟨k, hk, hk13⟩ := uintRem13 a
  obtain ⟨Y, hY⟩ : ∃ Y, w.heap.size = Y := ⟨_, rfl⟩
  obtain ⟨W1, hW1⟩ : ∃ W, w.alloc (.cells #[.string ⟨#[120]⟩, .string ⟨#[49]⟩] 29) = W := ⟨_, rfl⟩
  have hk1 : Bk W1 Y 29 #[.string ⟨#[120]⟩, .string ⟨#[49]⟩] := by rw [← hW1, ← hY]; exact Bk.new _ _ _
  have b1 : Below w.heap.size w W1 := by rw [← hW1]; exact (Below.refl _ _).alloc (Nat.le_refl _) _
  have hs1 : W1.heap.size = Y + 1 := by rw [← hW1, World.size_alloc, hY]
  obtain ⟨Z, hZ⟩ : ∃ Z, Y + 1 = Z := ⟨_, rfl⟩
  rw [hZ] at hs1
  obtain ⟨W2, hW2⟩ : ∃ W, W1.alloc (.cells (C4 Y) 32) = W := ⟨_, rfl⟩
  have hk2 : Bk W2 Z 32 (C4 Y) := by rw [← hW2, ← hs1]; exact Bk.new _ _ _
  have hk3 : Bk W2 Y 29 #[.string ⟨#[120]⟩, .string ⟨#[49]⟩] := by rw [← hW2]; exact hk1.alloc _
  have hs2 : W2.heap.size = Z + 1 := by rw [← hW2, World.size_alloc, hs1]
  have B2 : Hid (Below w.heap.size w W2) := by rw [← hW2]; exact b1.alloc (by rw [hs1]; omega) _
  have K2 := Lib.hid hk2
  have K3 := Lib.hid hk3
  have HS2 := Lib.hid hs2
  have HK := Lib.hid hk
  have HYE := Lib.hid hY
  have HZE := Lib.hid hZ
  have HR2 : Hid (ReadM W2 (.slice (some ⟨Z, 0, none⟩) 4 4) ((K4 (.slice (some ⟨Y, 0, none⟩) 1 1) A4 (-1) [98] [] [] 0 [100] []).map (·.1))) := (four_own (B := 0) hk2 (RowA.lit A4 hk3 _ rfl (by decide) (ats_one _)) (Nat.zero_le _) rfl).readM
  have HRW := Lib.hid (fun (W : World) (h : Below W2.heap.size W2 W) => HRI.out _ _ W (B2.out.trans (h.mono B2.out.size)) (HR2.out.below h) (by simp) (by simp [ownL, ownA]))
  rw [good4] at HRW
  unfold C4 at hW2
  clear hk hk1 hk2 hk3 hs2 b1
  go_enter Tryd.func4, Tryd.ntmps4
  go_upto_region 2 with fail
  clear hW1 hW2 hs1 hY hZ
  go_wp2_with fail
  refine (HAW.out W2 B2.out).mono ?_
  rintro e w3 ⟨rfl, b3⟩
  have B3 := Lib.hid b3
  clear b3
  go_wp2_with fail
  refine (HRW.out w3 B3.out).mono ?_
  rintro e w4 ⟨rfl, b4⟩
  have B4 : Hid (Below W2.heap.size W2 w4) := B3.out.trans (b4.mono B3.out.size)
  have N4 : Hid (Bk w4 Z 32 (C4 Y)) := K2.out.below B4.out (by rw [HS2.out]; omega)
  have AT4 : Hid (Bk w4 Y 29 #[.string ⟨#[120]⟩, .string ⟨#[49]⟩]) := K3.out.below B4.out (by rw [HS2.out, ← HZE.out]; omega)
  have W4 : Hid (Below w.heap.size w w4) := B2.out.trans (B4.out.mono B2.out.size)
  have HZ4 : Hid (w.heap.size ≤ Z ∧ Z < w4.heap.size ∧ w.heap.size ≤ Y ∧ Y < Z) := ⟨by rw [HYE.out, ← HZE.out]; omega, N4.out.lt, by rw [HYE.out]; omega, by rw [← HZE.out]; omega⟩
  clear b4 B3 B4 HRW HR2 K2 K3 B2 HS2
  go_upto_block 0 with fail
  go_cut [5] from 5 to 127 (fun l wx => Hid (Bad w l wx))
  case first =>
    clear HAW HWR HRI
    have hkk : k = 0 ∨ k = 1 ∨ k = 2 ∨ k = 3 ∨ k = 4 ∨ k = 5 ∨ k = 6 ∨ k = 7 ∨ k = 8 ∨ k = 9 ∨ k = 10 ∨ k = 11 ∨ k = 12 := by omega
    clear hk13
    rcases hkk with rfl | rfl | rfl | rfl | rfl | rfl | rfl | rfl | rfl | rfl | rfl | rfl | rfl
    · have hk : (IntKind.u64.wrap a).tmod 13 = 0 := HK.out
      clear HK
      have c0 := N4.out.cell 0
      have f0 := N4.out.free 0
      have AF : Hid (Bk (w4.setCell ⟨Z, 0, none⟩ (.int .i64 0)) Y 29 #[.string ⟨#[120]⟩, .string ⟨#[49]⟩]) := AT4.out.far (p := ⟨Z, 0, none⟩) (by have := HZ4.out; show Y ≠ Z; omega) _
      go_wp2_with fail
      go_meet
      exact Lib.hid (bad_four (al := A4) (p0 := 0) (n1 := [98]) (t1 := []) (s2 := []) (p3 := 0) (n3 := [100]) (t3 := []) (N4.out.put 0 (.int .i64 0)) AF.out (set_low W4.out HZ4.out.1 0 _) rfl (ats_one _) (by decide) (by decide +kernel) (by decide +kernel))
    · have hk : (IntKind.u64.wrap a).tmod 13 = 1 := HK.out
      clear HK
      have c0 := N4.out.cell 8
      have f0 := N4.out.free 8
      have AF : Hid (Bk (w4.setCell ⟨Z, 8, none⟩ (.string ⟨#[49, 98]⟩)) Y 29 #[.string ⟨#[120]⟩, .string ⟨#[49]⟩]) := AT4.out.far (p := ⟨Z, 8, none⟩) (by have := HZ4.out; show Y ≠ Z; omega) _
      go_wp2_with fail
      go_meet
      exact Lib.hid (bad_four (al := A4) (p0 := (-1)) (n1 := [49, 98]) (t1 := []) (s2 := []) (p3 := 0) (n3 := [100]) (t3 := []) (N4.out.put 8 (.string ⟨#[49, 98]⟩)) AF.out (set_low W4.out HZ4.out.1 8 _) rfl (ats_one _) (by decide) (by decide +kernel) (by decide +kernel))
    · have hk : (IntKind.u64.wrap a).tmod 13 = 2 := HK.out
      clear HK
      have c0 := N4.out.cell 11
      have f0 := N4.out.free 11
      have AF : Hid (Bk (w4.setCell ⟨Z, 11, none⟩ (.string ⟨#[116]⟩)) Y 29 #[.string ⟨#[120]⟩, .string ⟨#[49]⟩]) := AT4.out.far (p := ⟨Z, 11, none⟩) (by have := HZ4.out; show Y ≠ Z; omega) _
      go_wp2_with fail
      go_meet
      exact Lib.hid (bad_four (al := A4) (p0 := (-1)) (n1 := [98]) (t1 := [116]) (s2 := []) (p3 := 0) (n3 := [100]) (t3 := []) (N4.out.put 11 (.string ⟨#[116]⟩)) AF.out (set_low W4.out HZ4.out.1 11 _) rfl (ats_one _) (by decide) (by decide +kernel) (by decide +kernel))
    · have hk : (IntKind.u64.wrap a).tmod 13 = 3 := HK.out
      clear HK
      have c0 := N4.out.cell 18
      have f0 := N4.out.free 18
      have AF : Hid (Bk (w4.setCell ⟨Z, 18, none⟩ (.int .i64 3)) Y 29 #[.string ⟨#[120]⟩, .string ⟨#[49]⟩]) := AT4.out.far (p := ⟨Z, 18, none⟩) (by have := HZ4.out; show Y ≠ Z; omega) _
      go_wp2_with fail
      go_meet
      exact Lib.hid (bad_four (al := A4) (p0 := (-1)) (n1 := [98]) (t1 := []) (s2 := []) (p3 := 3) (n3 := [100]) (t3 := []) (N4.out.put 18 (.int .i64 3)) AF.out (set_low W4.out HZ4.out.1 18 _) rfl (ats_one _) (by decide) (by decide +kernel) (by decide +kernel))
    · have hk : (IntKind.u64.wrap a).tmod 13 = 4 := HK.out
      clear HK
      have c0 := N4.out.cell 18
      have f0 := N4.out.free 18
      have AF : Hid (Bk (w4.setCell ⟨Z, 18, none⟩ (.int .i64 (-1))) Y 29 #[.string ⟨#[120]⟩, .string ⟨#[49]⟩]) := AT4.out.far (p := ⟨Z, 18, none⟩) (by have := HZ4.out; show Y ≠ Z; omega) _
      go_wp2_with fail
      go_meet
      exact Lib.hid (bad_four (al := A4) (p0 := (-1)) (n1 := [98]) (t1 := []) (s2 := []) (p3 := (-1)) (n3 := [100]) (t3 := []) (N4.out.put 18 (.int .i64 (-1))) AF.out (set_low W4.out HZ4.out.1 18 _) rfl (ats_one _) (by decide) (by decide +kernel) (by decide +kernel))
    · have hk : (IntKind.u64.wrap a).tmod 13 = 5 := HK.out
      clear HK
      have O4 : Hid (OwnN w.heap.size w4 (.slice (some ⟨Z, 0, none⟩) 4 4) (kn A4 (-1) [98] [] [] 0 [100] [])) := four_own N4.out (RowA.lit A4 AT4.out _ rfl (by decide) (ats_one _)) HZ4.out.1 rfl
      have LE4 : Hid (w.heap.size ≤ w4.heap.size) := by have := HZ4.out; unfold Hid; omega
      go_wp2_with (at_builtin; refine push_node rfl _ _ rfl w.heap.size (.slice (some ⟨Z, 0, none⟩) 4 4) (kn A4 (-1) [98] [] [] 0 [100] []) (1, 0, [101], [], [], []) (.slice none 0 0) 1 0 ⟨#[101]⟩ ⟨#[]⟩ ⟨#[]⟩ rfl rfl rfl rfl rfl w4 rfl O4.out (RowA.none _) rfl (by decide) LE4.out ?_)
      intro v9 w9 o9 b9 _
      have O9 := Lib.hid o9
      have B9 := Lib.hid b9
      clear o9 b9
      go_wp2_with fail
      go_meet
      exact Lib.hid ⟨⟨_, O9.out.readM, by decide +kernel, by decide, by decide +kernel⟩, W4.out.trans B9.out⟩
    · have hk : (IntKind.u64.wrap a).tmod 13 = 6 := HK.out
      clear HK
      have c4 := N4.out.cell 4
      have O4 : Hid (OwnA w.heap.size w4 (.slice (some ⟨Y, 0, none⟩) 1 1) A4) := OwnA.lit A4 AT4.out HZ4.out.2.2.1 1 rfl (by decide) (ats_one _)
      have LE4 : Hid (w.heap.size ≤ w4.heap.size) := by have := HZ4.out; unfold Hid; omega
      go_wp2_with (at_builtin; refine push_att6 rfl _ _ rfl w.heap.size (.slice (some ⟨Y, 0, none⟩) 1 1) A4 ([120], []) ⟨#[120]⟩ ⟨#[]⟩ rfl rfl w4 rfl O4.out rfl (by decide) LE4.out ?_)
      intro v9 w9 o9 b9 k9
      have N9 : Hid (Bk w9 Z 32 (C4 Y)) := (k9 Z HZ4.out.2.1 (by have := HZ4.out; simp [Value.ownBlock]; omega)).trans N4.out
      have O9 := Lib.hid o9
      have B9 := Lib.hid b9
      have c9 := N9.out.cell 4
      have f9 := N9.out.free 4
      obtain ⟨A9, cap9, hv9⟩ := o9.slice
      replace hv9 : v9 = .slice A9 2 cap9 := hv9
      subst hv9
      clear o9 b9 k9 c4
      go_wp2_with fail
      go_meet
      exact Lib.hid (bad_row (al := (A4 ++ [([120], [])])) (p0 := (-1)) (n1 := [98]) (t1 := []) (s2 := []) (p3 := 0) (n3 := [100]) (t3 := []) (N9.out.put 4 _) (O9.out.row.keep (keep_node N9.out 4 _)) (set_low (W4.out.trans B9.out) HZ4.out.1 4 _) rfl (by decide +kernel) (by decide +kernel))
    · have hk : (IntKind.u64.wrap a).tmod 13 = 7 := HK.out
      clear HK
      have c0 := N4.out.cell 20
      have f0 := N4.out.free 20
      have AF : Hid (Bk (w4.setCell ⟨Z, 20, none⟩ (.string ⟨#[97, 58, 98]⟩)) Y 29 #[.string ⟨#[120]⟩, .string ⟨#[49]⟩]) := AT4.out.far (p := ⟨Z, 20, none⟩) (by have := HZ4.out; show Y ≠ Z; omega) _
      go_wp2_with fail
      go_meet
      exact Lib.hid (bad_four (al := A4) (p0 := (-1)) (n1 := [98]) (t1 := []) (s2 := []) (p3 := 0) (n3 := [97, 58, 98]) (t3 := []) (N4.out.put 20 (.string ⟨#[97, 58, 98]⟩)) AF.out (set_low W4.out HZ4.out.1 20 _) rfl (ats_one _) (by decide) (by decide +kernel) (by decide +kernel))
    · have hk : (IntKind.u64.wrap a).tmod 13 = 8 := HK.out
      clear HK
      obtain ⟨m, hm, hm1⟩ : ∃ m : Nat, IntKind.u8.wrap (128 + c.tmod 128) = ((128 + m : Nat) : Int) ∧ m < 128 := byte_up hc0
      have HM := Lib.hid (high_bad m hm1)
      have HS8 := Lib.hid (high_sum (UInt8.ofNat (128 + m)))
      obtain ⟨x8, hx8⟩ : ∃ x : Int, ((128 + m : Nat) : Int) = x := ⟨_, rfl⟩
      obtain ⟨y8, hy8⟩ : ∃ y : UInt8, UInt8.ofNat (128 + m) = y := ⟨_, rfl⟩
      have hxy : UInt8.ofNat x8.toNat = y8 := by rw [← hx8, ← hy8, Int.toNat_natCast]
      rw [hx8] at hm
      rw [hy8] at HM HS8
      have HXY := Lib.hid hxy
      clear hx8 hy8 hxy hm1 hc0
      obtain ⟨W8, hW8⟩ : ∃ W, w4.alloc (.cells #[.int .u8 x8] 5) = W := ⟨_, rfl⟩
      have hcv : (convert 34 9 (.slice (some ⟨w4.heap.size, 0, none⟩) 1 1)).run Tryd.prog W8 = .ok (.string ⟨#[y8]⟩) W8 := by rw [← hW8, ← HXY.out]; exact oneByte Tryd.underlying34 Tryd.underlying5 Tryd.underlying9 x8 w4
      have hlt := N4.out.lt
      have N8 : Hid (Bk W8 Z 32 (C4 Y)) := by rw [← hW8]; exact N4.out.alloc _
      have A8 : Hid (Bk W8 Y 29 #[.string ⟨#[120]⟩, .string ⟨#[49]⟩]) := by rw [← hW8]; exact AT4.out.alloc _
      have B8 : Hid (Below w.heap.size w W8) := by rw [← hW8]; exact W4.out.alloc (by have := HZ4.out; omega) _
      have c0 := N8.out.cell 23
      have f0 := N8.out.free 23
      have AF : Hid (Bk (W8.setCell ⟨Z, 23, none⟩ (.string ⟨#[y8]⟩)) Y 29 #[.string ⟨#[120]⟩, .string ⟨#[49]⟩]) := A8.out.far (p := ⟨Z, 23, none⟩) (by have := HZ4.out; show Y ≠ Z; omega) _
      clear hlt
      go_wp2_with fail
      go_meet
      exact Lib.hid (bad_four (al := A4) (p0 := (-1)) (n1 := [98]) (t1 := []) (s2 := []) (p3 := 0) (n3 := [100]) (t3 := [y8]) (N8.out.put 23 (.string ⟨#[y8]⟩)) AF.out (set_low B8.out HZ4.out.1 23 _) rfl (ats_one _) (by decide) HM.out HS8.out)
    · have hk : (IntKind.u64.wrap a).tmod 13 = 9 := HK.out
      clear HK
      obtain ⟨W9, hW9⟩ : ∃ W, w4.alloc (.cells #[.int .u8 1] 5) = W := ⟨_, rfl⟩
      have hcv : (convert 34 9 (.slice (some ⟨w4.heap.size, 0, none⟩) 1 1)).run Tryd.prog W9.drew = .ok (.string ⟨#[1]⟩) W9.drew := by rw [← hW9]; exact oneByte Tryd.underlying34 Tryd.underlying5 Tryd.underlying9 1 w4.drew
      have N9 : Hid (Bk W9 Z 32 (C4 Y)) := by rw [← hW9]; exact N4.out.alloc _
      have A9 : Hid (Bk W9 Y 29 #[.string ⟨#[120]⟩, .string ⟨#[49]⟩]) := by rw [← hW9]; exact AT4.out.alloc _
      have B9 : Hid (Below w.heap.size w W9) := by rw [← hW9]; exact W4.out.alloc (by have := HZ4.out; have := N4.out.lt; omega) _
      have c4 : w4.drew.cell? ⟨Z, 4, none⟩ = some (.slice (some ⟨Y, 0, none⟩) 1 1) := N4.out.cell 4
      have c9 : W9.drew.cell? ⟨Z, 4, none⟩ = some (.slice (some ⟨Y, 0, none⟩) 1 1) := N9.out.cell 4
      have a9 : W9.drew.cell? ⟨Y, 1, none⟩ = some (.string ⟨#[49]⟩) := A9.out.cell 1
      have f9 : W9.drew.frozen? ⟨Y, 1, none⟩ = false := A9.out.free 1
      have NF : Hid (Bk (W9.setCell ⟨Y, 1, none⟩ (.string ⟨#[1]⟩)) Z 32 (C4 Y)) := N9.out.far (p := ⟨Y, 1, none⟩) (by have := HZ4.out; show Z ≠ Y; omega) _
      have AF : Hid (Bk (W9.setCell ⟨Y, 1, none⟩ (.string ⟨#[1]⟩)) Y 29 #[.string ⟨#[120]⟩, .string ⟨#[1]⟩]) := A9.out.put 1 _
      have BF : Hid (Below w.heap.size w (W9.setCell ⟨Y, 1, none⟩ (.string ⟨#[1]⟩))) := set_low B9.out HZ4.out.2.2.1 1 _
      have HB : Hid (Bad w (.slice (some ⟨Z, 0, none⟩) 4 4) (W9.drew.setCell ⟨Y, 1, none⟩ (.string ⟨#[1]⟩))) := bad_four (al := [([120], [1])]) (p0 := (-1)) (n1 := [98]) (t1 := []) (s2 := []) (p3 := 0) (n3 := [100]) (t3 := []) NF.out AF.out BF.out.drew rfl (ats_one _) (by decide) (by decide +kernel) (by decide +kernel)
      clear NF AF BF N9 A9 B9
      go_upto_region 28 with fail
      go_region_with (fail)
      all_goals (go_wp2_with fail; go_meet; exact HB)
    · have hk : (IntKind.u64.wrap a).tmod 13 = 10 := HK.out
      clear HK
      have c4 := N4.out.cell 4
      have a0 := AT4.out.cell 0
      have f0 := AT4.out.free 0
      have NF : Hid (Bk (w4.setCell ⟨Y, 0, none⟩ (.string ⟨#[120, 109, 108, 110, 115]⟩)) Z 32 (C4 Y)) := N4.out.far (p := ⟨Y, 0, none⟩) (by have := HZ4.out; show Z ≠ Y; omega) _
      go_wp2_with fail
      go_meet
      exact Lib.hid (bad_four (al := [(xmlnsL, [49])]) (p0 := (-1)) (n1 := [98]) (t1 := []) (s2 := []) (p3 := 0) (n3 := [100]) (t3 := []) NF.out (AT4.out.put 0 (.string ⟨#[120, 109, 108, 110, 115]⟩)) (set_low W4.out HZ4.out.2.2.1 0 _) rfl (ats_one _) (by decide) (by decide +kernel) (by decide +kernel))
    · have hk : (IntKind.u64.wrap a).tmod 13 = 11 := HK.out
      clear HK
      obtain ⟨W8, hW8⟩ : ∃ W, w4.alloc (.cells #[.int .u8 255] 5) = W := ⟨_, rfl⟩
      have hcv : (convert 34 9 (.slice (some ⟨w4.heap.size, 0, none⟩) 1 1)).run Tryd.prog W8 = .ok (.string ⟨#[255]⟩) W8 := by rw [← hW8]; exact oneByte Tryd.underlying34 Tryd.underlying5 Tryd.underlying9 255 w4
      have hlt := N4.out.lt
      have N8 : Hid (Bk W8 Z 32 (C4 Y)) := by rw [← hW8]; exact N4.out.alloc _
      have A8 : Hid (Bk W8 Y 29 #[.string ⟨#[120]⟩, .string ⟨#[49]⟩]) := by rw [← hW8]; exact AT4.out.alloc _
      have B8 : Hid (Below w.heap.size w W8) := by rw [← hW8]; exact W4.out.alloc (by have := HZ4.out; omega) _
      have c0 := N8.out.cell 15
      have f0 := N8.out.free 15
      have AF : Hid (Bk (W8.setCell ⟨Z, 15, none⟩ (.string ⟨#[255]⟩)) Y 29 #[.string ⟨#[120]⟩, .string ⟨#[49]⟩]) := A8.out.far (p := ⟨Z, 15, none⟩) (by have := HZ4.out; show Y ≠ Z; omega) _
      clear hlt
      go_wp2_with fail
      go_meet
      exact Lib.hid (bad_four (al := A4) (p0 := (-1)) (n1 := [98]) (t1 := []) (s2 := [255]) (p3 := 0) (n3 := [100]) (t3 := []) (N8.out.put 15 (.string ⟨#[255]⟩)) AF.out (set_low B8.out HZ4.out.1 15 _) rfl (ats_one _) (by decide) (by decide +kernel) (by decide +kernel))
    · have hk : (IntKind.u64.wrap a).tmod 13 = 12 := HK.out
      clear HK
      have O0 : Hid (OwnA w.heap.size w4 (.slice (some ⟨Y, 0, none⟩) 1 1) (A4 ++ letters 0)) := OwnA.lit A4 AT4.out HZ4.out.2.2.1 1 rfl (by decide) (ats_one _)
      have N0 : Hid (Bk w4 Z 32 ((C4 Y).setIfInBounds 4 (.slice (some ⟨Y, 0, none⟩) 1 1))) := N4.out
      have ZB : Hid (w.heap.size ≤ Z) := HZ4.out.1
      clear N4 AT4 HZ4 hc0 HYE HZE
      go_wp2_with fail
      rw [hk]
      clear hk
      go_loopw [6] (fun iv wr => ∃ (i : Nat) (v : Value), i ≤ 9 ∧ iv = .int .i64 i ∧ Hid (Bk wr Z 32 ((C4 Y).setIfInBounds 4 v)) ∧ Hid (OwnA w.heap.size wr v (A4 ++ letters i)) ∧ Hid (Below w.heap.size w wr)) (fun iv _ => 9 - (intOf iv).toNat)
      case atStart => exact ⟨0, _, Nat.zero_le _, rfl, N0, O0, W4⟩
      case round =>
        clear N0 O0 W4
        obtain ⟨i, v, hi, rfl, hn, ho, hb⟩ := hrel
        by_cases hlt : i < 9
        · obtain ⟨A, cap, hv⟩ := ho.out.slice
          replace hv : v = .slice A (i + 1) cap := by rw [hv, List.length_append, letters_len, Nat.add_comm]; rfl
          subst hv
          have h36 : IntKind.u8.wrap (i : Int) = i := by simp [IntKind.wrap, IntKind.bits, IntKind.signed]; omega
          obtain ⟨x8, hx8⟩ : ∃ x : Int, ((97 + i : Nat) : Int) = x := ⟨_, rfl⟩
          have h37 : IntKind.u8.wrap (97 + (i : Int)) = x8 := by rw [← hx8]; simp [IntKind.wrap, IntKind.bits, IntKind.signed]; omega
          obtain ⟨y8, hy8⟩ : ∃ y : UInt8, UInt8.ofNat (97 + i) = y := ⟨_, rfl⟩
          have HXY : Hid (UInt8.ofNat x8.toNat = y8) := by unfold Hid; rw [← hx8, ← hy8, Int.toNat_natCast]
          have HLE : Hid (letters (i + 1) = letters i ++ [([y8], [])]) := by unfold Hid; rw [letters_snoc, hy8]
          have HLN : Hid ((A4 ++ letters i).length ≤ 1000000000) := by unfold Hid; rw [List.length_append, letters_len]; show 1 + i ≤ _; omega
          clear hx8 hy8
          obtain ⟨W7, hW7⟩ : ∃ W, wr.alloc (.cells #[.int .u8 x8] 5) = W := ⟨_, rfl⟩
          have hcv : (convert 34 9 (.slice (some ⟨wr.heap.size, 0, none⟩) 1 1)).run Tryd.prog W7.drew = .ok (.string ⟨#[y8]⟩) W7.drew := by rw [← hW7, ← HXY.out]; exact oneByte Tryd.underlying34 Tryd.underlying5 Tryd.underlying9 x8 wr.drew
          have N7 : Hid (Bk W7 Z 32 ((C4 Y).setIfInBounds 4 (.slice A (i + 1) cap))) := by rw [← hW7]; exact hn.out.alloc _
          have hbw : Below wr.heap.size wr W7 := by rw [← hW7]; exact (Below.refl _ _).alloc (Nat.le_refl _) _
          have O7 : Hid (OwnA w.heap.size W7.drew (.slice A (i + 1) cap) (A4 ++ letters i)) := ho.out.below hbw.drew
          have B7 : Hid (Below w.heap.size w W7) := hb.out.trans (hbw.mono hb.out.size)
          have Z7 : w.heap.size ≤ W7.drew.heap.size := B7.out.size
          have ZL : Hid (Z < W7.heap.size) := N7.out.lt
          have hfar := Lib.hid (OwnA.farN O7.out (show Bk W7.drew Z _ _ from N7.out))
          have c0 : wr.cell? ⟨Z, 4, none⟩ = some (.slice A (i + 1) cap) := hn.out.cell 4
          have c7 : W7.cell? ⟨Z, 4, none⟩ = some (.slice A (i + 1) cap) := N7.out.cell 4
          have c8 : (W7.alloc (.cells #[.string ⟨#[y8]⟩, .string ⟨#[]⟩] 29)).cell? ⟨Z, 4, none⟩ = some (.slice A (i + 1) cap) := (N7.out.alloc _).cell 4
          clear hbw ho hb hn HXY
          go_upto_region 8 with fail
          go_region_law (refine step_att rfl _ _ rfl w.heap.size (.slice A (i + 1) cap) (A4 ++ letters i) ([y8], []) W7.drew rfl O7.out rfl HLN.out Z7 ?_; intro v3 w3 o3 b3 k3; have N3 : Hid (Bk w3 Z 32 ((C4 Y).setIfInBounds 4 (.slice A (i + 1) cap))) := (k3 Z ZL.out hfar.out).trans N7.out; have g3 : w3.cell? ⟨Z, 4, none⟩ = some (.slice A (i + 1) cap) := N3.out.cell 4; have h3 : w3.frozen? ⟨Z, 4, none⟩ = false := N3.out.free 4; obtain ⟨A3, cap3, hv3⟩ := o3.slice; replace hv3 : v3 = .slice A3 (i + 2) cap3 := (by rw [hv3]; first | done | simp [letters_len]); subst hv3; have O3 := Lib.hid o3; have B3 := Lib.hid b3; clear o3 b3 k3)
          all_goals
            go_wp2_with fail
            have PN : Hid (Bk (w3.setCell ⟨Z, 4, none⟩ (.slice A3 (i + 2) cap3)) Z 32 ((C4 Y).setIfInBounds 4 (.slice A3 (i + 2) cap3))) := N3.out.put 4 _
            have PO : Hid (OwnA w.heap.size (w3.setCell ⟨Z, 4, none⟩ (.slice A3 (i + 2) cap3)) (.slice A3 (i + 2) cap3) (A4 ++ letters (i + 1))) := by
              unfold Hid
              rw [HLE.out, ← List.append_assoc]
              exact O3.out.stored N3.out (by decide) 4 _
            have PB : Hid (Below w.heap.size w (w3.setCell ⟨Z, 4, none⟩ (.slice A3 (i + 2) cap3))) := set_low (B7.out.drew.trans B3.out) ZB.out 4 _
            go_roundw
            case rel => exact ⟨i + 1, _, by omega, by go_num, PN, PO, PB⟩
            case measure => simp [intOf]; omega
        · obtain rfl : i = 9 := by omega
          go_wp2_with fail
          go_meet
          exact Lib.hid (bad_row (al := (A4 ++ letters 9)) (p0 := (-1)) (n1 := [98]) (t1 := []) (s2 := []) (p3 := 0) (n3 := [100]) (t3 := []) hn.out ho.out.row hb.out rfl (by decide +kernel) (by decide +kernel))
  case rest =>
    clear HK HYE HZE N4 AT4 W4 HZ4 HAW
    obtain ⟨⟨ns, hr, hbad, hl, hs⟩, hlow⟩ := hcut.out
    have H1 := Lib.hid (HWR.out _ ns _ hlow hr hl hs)
    have HRR := Lib.hid (fun (W : World) (h : Below wc.heap.size wc W) => HRI.out _ ns W (hlow.trans (h.mono hlow.size)) (hr.below h) hl hs)
    rw [writeV_no hbad] at H1
    rw [hbad] at HRR
    have BL := Lib.hid hlow
    clear hcut hr hbad hl hs hlow HWR HRI
    go_wp2_with fail
    refine H1.out.mono ?_
    rintro e w5 ⟨rfl, b5⟩
    have B5 := Lib.hid b5
    clear b5
    go_wp2_with fail
    refine (HRR.out w5 B5.out).mono ?_
    rintro e w6 ⟨rfl, b6⟩
    have B6 : Hid (Below wc.heap.size wc w6) := B5.out.trans (b6.mono B5.out.size)
    clear b6
    go_wp2_with fail
    go_ret
    exact ⟨rfl, BL.out.trans (B6.out.mono BL.out.size)⟩
end Go.Proofs.YtbkfmbkamocllaaDoor
