import Derived.Test.YtogjhpcjjmcjfaaGreatDoorI21
import Derived.WalkKit
import Derived.Test.YtogjhpcjjmcjfaaGreatDoorI41
import Derived.Test.YtogjhpcjjmcjfaaGreatDoorI35
import Derived.Test.YtogjhpcjjmcjfaaGreatDoorI37
import Derived.Test.YtogjhpcjjmcjfaaGreatDoorI30
import Derived.Lib.Hide
import Derived.Laws.StructEq
import Derived.Lib.SlicesS
import Derived.Deep.RegionWith
import Derived.Deep.Cut
import Derived.Deep.DeepCutAuto
import Derived.IntWalk
import Derived.Deep.QuietTactic
import Derived.BigQuiet
import Derived.Test.YtogjhpcjjmcjfaaGreatDoorI29
import Derived.Test.YtogjhpcjjmcjfaaGreatDoorShelf
import Derived.Test.YtogjhpcjjmcjfaaGreatDoorI40
import Derived.Laws.EntriesVeiled
import Derived.Deep.RegionLaw
import Derived.Test.YtogjhpcjjmcjfaaGreatDoorI36
import Derived.Lib.ConvBytes
import Derived.Lib.AtoiErrMem
import Derived.Shelf.SlicesQ.IndexFunc
import Derived.Deep.Upon
import Derived.Deep.MidRow
import Derived.Shelf.SlicesE.Clone
import Derived.Lib.SliceRun
import Derived.Lib.Strings
import Derived.Laws.AppendOwnNone
section
/- what is reached of it -/
namespace Go.Proofs.YtogjhpcjjmcjfaaGreatDoor
open Go.RowKit Tx
set_option maxHeartbeats 400000 in
theorem line_any (s : ByteArray) (most : Int) (w : World) (hT : Tabs w) (hs : s.size ≤ 140737488355328) :
    Calls Tryz.prog 55 #[.string s, .int .i64 most] w fun e w' => e = .returned (.bool (line s.data.toList most)) ∧ Below w.heap.size w w' := by
  have HW := Lib.hid (walk_span s w hT hs)
  cases hch : ch s.data.toList with
  | none =>
    have HS := Lib.hid (spanOf_none hch)
    rw [line_none hch]
    clear hch
    go_enter Tryz.func55, Tryz.ntmps55
    go_wp2_with (go_at_call 75; refine HW.out.mono ?_; rintro e w1 ⟨rfl, hb⟩; rw [HS.out])
    go_ret
    exact ⟨rfl, hb.alloc hb.size _⟩
  | some x =>
    have HS := Lib.hid (spanOf_some hch)
    rw [line_some hch]
    clear hch
    obtain ⟨a, ha⟩ : ∃ a, x.length = a := ⟨_, rfl⟩
    obtain ⟨b, hb0⟩ : ∃ b, low x = b := ⟨_, rfl⟩
    rw [ha, hb0] at HS
    rw [ha, hb0]
    clear ha hb0
    by_cases h0 : b = 0
    · subst h0
      go_enter Tryz.func55, Tryz.ntmps55
      go_wp2_with (go_at_call 75; refine HW.out.mono ?_; rintro e w1 ⟨rfl, hb⟩; rw [HS.out])
      go_ret
      exact ⟨rfl, hb.alloc hb.size _⟩
    · have g0 : ((b : Int) == 0) = false := by simpa using h0
      have g1 : (b == 0) = false := by simpa using h0
      go_enter Tryz.func55, Tryz.ntmps55
      go_wp2_with (go_at_call 75; refine HW.out.mono ?_; rintro e w1 ⟨rfl, hb⟩; rw [HS.out])
      go_ret
      exact ⟨by simp [g1], hb.alloc hb.size _⟩
end Go.Proofs.YtogjhpcjjmcjfaaGreatDoor
end
section
/- what is reached of it -/
namespace Go.Proofs.YtogjhpcjjmcjfaaGreatDoor
open Go.RowKit
/-- A law answers true, and turns no memory that was there. -/
def Holds (w : World) (e : Ending) (w' : World) : Prop := e = .returned (.bool true) ∧ Below w.heap.size w w'
end Go.Proofs.YtogjhpcjjmcjfaaGreatDoor
end
section
/- what is reached of it -/
namespace Go.Proofs.YtogjhpcjjmcjfaaGreatDoor
open Go.RowKit Vc Ct
theorem bytes_eqb2 (a b : List UInt8) : ((bts a).toList == (bts b).toList) = decide (a = b) := by
  rw [ByteArray.toList_mk, ByteArray.toList_mk]
  by_cases h : a = b
  · simp [h]
  · simp [h]
end Go.Proofs.YtogjhpcjjmcjfaaGreatDoor
end
section
/- what is reached of it -/
namespace Go.Proofs.YtogjhpcjjmcjfaaGreatDoor
open Go.RowKit Tx
/-- how the package's loop stands: out behind, t ahead -/
def PGoes (l t out : List UInt8) : Prop := plain l = (plain t).map (out ++ ·)
theorem PGoes.start (l : List UInt8) : PGoes l l [] := by unfold PGoes; cases plain l <;> rfl
theorem PGoes.stop {l t out : List UInt8} (h : PGoes l t out) (hn : ∀ c ∈ t, c ≠ 92) : plain l = some (out ++ t) := by
  have := plain_run t [] hn
  rw [List.append_nil, plain_nil] at this
  unfold PGoes at h
  rw [h, this]
  simp
theorem PGoes.last {l t out p : List UInt8} (h : PGoes l t out) (ht : t = p ++ [92]) (hn : ∀ c ∈ p, c ≠ 92) : plain l = none := by
  unfold PGoes at h
  rw [h, ht, plain_run p _ hn, Tx.plain_end]
  rfl
theorem PGoes.bad {l t out p u : List UInt8} {d : UInt8} (h : PGoes l t out) (ht : t = p ++ 92 :: d :: u) (hn : ∀ c ∈ p, c ≠ 92) (hu : unb d = none) : plain l = none := by
  unfold PGoes at h
  rw [h, ht, plain_run p _ hn, plain_bad u hu]
  rfl
theorem PGoes.step {l t out p u : List UInt8} {d x : UInt8} (h : PGoes l t out) (ht : t = p ++ 92 :: d :: u) (hn : ∀ c ∈ p, c ≠ 92) (hu : unb d = some x) : PGoes l u (out ++ p ++ [x]) := by
  unfold PGoes at h ⊢
  rw [h, ht, plain_run p _ hn, plain_esc u hu]
  cases plain u <;> simp
end Go.Proofs.YtogjhpcjjmcjfaaGreatDoor
end
section
/- what is reached of it -/
namespace Go.Proofs.YtogjhpcjjmcjfaaGreatDoor
open Go.RowKit Vc Ct
theorem Txts.own {w : World} {h : Nat} {xs : List (List UInt8)} (t : Txts w h xs) (cap : Nat) : ReadT w.heap.size w (.slice (some ⟨h, 0, none⟩) xs.length cap) (sts xs) := by
  refine ReadT.made (by unfold sts; rw [List.length_map]) t.lt (fun i b hi => ?_)
  unfold sts at hi
  rw [List.getElem?_map] at hi
  obtain ⟨x, hx, rfl⟩ := Option.map_eq_some_iff.1 hi
  rw [Nat.zero_add]
  exact t.cell hx
end Go.Proofs.YtogjhpcjjmcjfaaGreatDoor
end
section
/- what is reached of it -/
namespace Go.Proofs.YtogjhpcjjmcjfaaGreatDoor
open Go.RowKit Vc Ct
def heavyT (l : List (List UInt8)) : Nat := (l.map (fun x => 1 + x.length)).sum
theorem heavy_take {l : List (List UInt8)} {k : Nat} {x : List UInt8} (h : l[k]? = some x) : heavyT (l.take (k + 1)) = heavyT (l.take k) + 1 + x.length := by
  unfold heavyT
  rw [List.take_add_one, h]
  simp
  omega
theorem heavy_le : ∀ (l : List (List UInt8)) (k : Nat), heavyT (l.take k) ≤ heavyT l
  | [], k => by simp
  | x :: t, 0 => Nat.zero_le _
  | x :: t, k + 1 => by
    have := heavy_le t k
    unfold heavyT at this ⊢
    simp only [List.take_succ_cons, List.map_cons, List.sum_cons]
    omega
set_option maxHeartbeats 2000000 in
theorem ptexts_any (v : Value) (l : List (List UInt8)) (w : World) (hR : ReadT w.heap.size w v (sts l)) (hl : l.length ≤ 1000000000) (hs : heavyT l ≤ 1000000000000) :
    Calls Tryz.prog 9 #[v] w fun e w' => e = .returned (.int .i64 (heavyT l : Nat)) ∧ w' = w := by
  obtain ⟨A, cap, rfl, hcell⟩ := hR
  have hsl : (sts l).length = l.length := by unfold sts; rw [List.length_map]
  rw [hsl] at hcell ⊢
  obtain ⟨n, hn⟩ : ∃ n, l.length = n := ⟨_, rfl⟩
  have HN := Lib.hid hn
  rw [hn] at hcell hl ⊢
  have HC := Lib.hid hcell
  have HLE := Lib.hid (heavy_le l)
  have HST := Lib.hid (fun k x (h : l[k]? = some x) => heavy_take h)
  have HSS := Lib.hid hs
  have h0 : Hid (heavyT (l.take 0) = 0) := rfl
  clear hcell hn hsl hs
  go_enter Tryz.func9, Tryz.ntmps9
  go_wp2_with fail
  go_loopw [3, 4] (fun sv iv wr => ∃ (k m : Nat), sv = .int .i64 m ∧ iv = .int .i64 k ∧ k ≤ n ∧ Hid (m = heavyT (l.take k)) ∧ wr = w) (fun _ iv _ => n - (intOf iv).toNat)
  case atStart => exact ⟨0, 0, rfl, rfl, Nat.zero_le _, h0.out.symm, rfl⟩
  case round =>
    obtain ⟨k, m, rfl, rfl, hk, HM, rfl⟩ := hrel
    have hmb : m ≤ 1000000000000 := by have := HLE.out k; have := HSS.out; have := HM.out; omega
    by_cases hlt : k < n
    · obtain ⟨ad, rfl, hlb, hcell⟩ := HC.out (by omega)
      obtain ⟨x, hx⟩ : ∃ p, l[k]? = some p := ⟨_, List.getElem?_eq_getElem (by rw [HN.out]; exact hlt)⟩
      have c0 := hcell k (bts x) (by unfold sts; rw [List.getElem?_map, hx]; rfl)
      have hnx := HST.out k x hx
      rw [← HM.out] at hnx
      have hle := HLE.out (k + 1)
      rw [hnx] at hle
      have hsz : (bts x).size = x.length := by rw [Lib.size_eq]
      obtain ⟨X, hX⟩ : ∃ X, bts x = X := ⟨_, rfl⟩
      rw [hX] at hsz c0
      rw [← hsz] at hnx hle
      have hbx : m + 1 + X.size ≤ 1000000000000 := Nat.le_trans hle HSS.out
      have HNX : Hid (m + 1 + X.size = heavyT (l.take (k + 1))) := hnx.symm
      clear hcell hx hlb hnx hle hsz hX
      go_wp2_with fail
      go_roundw
      case rel => exact ⟨k + 1, m + 1 + X.size, by go_num, by go_num, by omega, HNX, trivial⟩
      case measure => simp [intOf]; omega
    · have hkn : l.take k = l := List.take_of_length_le (by rw [HN.out]; omega)
      have HE := HM.out
      rw [hkn] at HE
      have HEE := Lib.hid HE
      clear HE hkn
      go_wp2_with fail
      go_ret
      exact ⟨by rw [← HEE.out]; rfl, rfl⟩
end Go.Proofs.YtogjhpcjjmcjfaaGreatDoor
end
section
/- what is reached of it -/
namespace Go.Proofs.YtogjhpcjjmcjfaaGreatDoor
open Go.RowKit Vc Ct
set_option maxHeartbeats 2000000 in
theorem rin_any (v : Value) (l : List (List UInt8)) (x : List UInt8) (w : World) (hR : ReadT w.heap.size w v (sts l)) (hl : l.length ≤ 1000000) :
    Calls Tryz.prog 26 #[v, .string (bts x)] w fun e w' => e = .returned (.bool (decide (x ∈ l))) ∧ Below w.heap.size w w' := by
  obtain ⟨A, cap, rfl, hcell⟩ := hR
  have hsl : (sts l).length = l.length := by unfold sts; rw [List.length_map]
  rw [hsl] at hcell ⊢
  obtain ⟨n, hn⟩ : ∃ n, l.length = n := ⟨_, rfl⟩
  have HN := Lib.hid hn
  rw [hn] at hcell hl ⊢
  have HC := Lib.hid hcell
  have HQ := Lib.hid (fun y => bytes_eqb2 y x)
  have hst : Hid (∀ k y, l[k]? = some y → decide (x ∈ l.take (k + 1)) = (decide (x ∈ l.take k) || decide (y = x))) := fun k y hy => by
    rw [List.take_add_one, hy]
    simp only [Option.toList, List.mem_append, List.mem_singleton, Bool.decide_or]
    congr 1
    exact decide_eq_decide.2 ⟨Eq.symm, Eq.symm⟩
  have hyes : Hid (∀ k, decide (x ∈ l.take k) = true → decide (x ∈ l) = true) := fun k h => decide_eq_true (List.mem_of_mem_take (of_decide_eq_true h))
  obtain ⟨X, hX⟩ : ∃ X, bts x = X := ⟨_, rfl⟩
  rw [hX] at HQ ⊢
  have h0 : Hid (decide (x ∈ l.take 0) = false) := rfl
  obtain ⟨D, hD⟩ : ∃ D, decide (x ∈ l) = D := ⟨_, rfl⟩
  rw [hD] at hyes ⊢
  have HD := Lib.hid hD
  clear hcell hn hsl hX hD
  go_enter Tryz.func26, Tryz.ntmps26
  go_wp2_with fail
  go_loopw [5] (fun iv wr => ∃ (k : Nat), iv = .int .i64 k ∧ k ≤ n ∧ Hid (decide (x ∈ l.take k) = false) ∧ Hid (Below w.heap.size w wr)) (fun iv _ => n - (intOf iv).toNat)
  case atStart => exact ⟨0, rfl, Nat.zero_le _, h0, Below.refl _ _⟩
  case round =>
    obtain ⟨k, rfl, hk, HF, BW⟩ := hrel
    by_cases hlt : k < n
    · obtain ⟨ad, rfl, hlb, hcell⟩ := HC.out (by omega)
      obtain ⟨y, hy⟩ : ∃ p, l[k]? = some p := ⟨_, List.getElem?_eq_getElem (by rw [HN.out]; exact hlt)⟩
      have c0 := hcell k (bts y) (by unfold sts; rw [List.getElem?_map, hy]; rfl)
      rw [← BW.out.cell (p := ad.add k) (by rw [addBlock]; exact hlb)] at c0
      have hq := HQ.out y
      have hs2 := hst.out k y hy
      rw [HF.out, Bool.false_or] at hs2
      obtain ⟨Y, hY⟩ : ∃ X, bts y = X := ⟨_, rfl⟩
      rw [hY] at hq c0
      obtain ⟨d, hd⟩ : ∃ d, decide (y = x) = d := ⟨_, rfl⟩
      rw [hd] at hq hs2
      have HS2 := Lib.hid hs2
      clear hcell hy hlb hY hd hs2
      cases d with
      | true =>
        have HT := Lib.hid (hyes.out _ HS2.out)
        go_wp2_with fail
        go_ret
        exact ⟨by rw [HT.out]; rfl, BW.out⟩
      | false =>
        go_wp2_with fail
        go_roundw
        case rel => exact ⟨k + 1, by go_num, by omega, HS2, BW⟩
        case measure => simp [intOf]; omega
    · have hkn : l.take k = l := List.take_of_length_le (by rw [HN.out]; omega)
      have HE := HF.out
      rw [hkn, HD.out] at HE
      have HEE := Lib.hid HE
      clear HE hkn
      go_wp2_with fail
      go_ret
      exact ⟨by rw [HEE.out]; rfl, BW.out⟩
end Go.Proofs.YtogjhpcjjmcjfaaGreatDoor
end
section
/- what is reached of it -/
namespace Go.Proofs.YtogjhpcjjmcjfaaGreatDoor
open Go.RowKit Vc Ct Tx
theorem sts_of {l : List (List UInt8)} {i : Nat} {b : ByteArray} (h : (sts l)[i]? = some b) : ∃ y, l[i]? = some y ∧ b = bts y := by
  unfold sts at h
  rw [List.getElem?_map] at h
  obtain ⟨y, hy, e⟩ := Option.map_eq_some_iff.1 h
  exact ⟨y, hy, e.symm⟩
end Go.Proofs.YtogjhpcjjmcjfaaGreatDoor
end
