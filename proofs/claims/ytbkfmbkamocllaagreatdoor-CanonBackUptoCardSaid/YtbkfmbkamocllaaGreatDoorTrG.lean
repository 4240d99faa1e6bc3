/- Texts laid together: TrG TrV -/
import Derived.Test.YtbkfmbkamocllaaGreatDoorTrM
import Derived.Deep.RegionWith
import Derived.Deep.QuietTactic
import Derived.BigQuiet
import Derived.Deep.Cut
import Derived.Lib.SlicesS
import Derived.Shelf.Abstract
/-
  package tree: what grows, and the stack of what is open: height, whole, top, put, take.
-/
namespace Go.Proofs.YtbkfmbkamocllaaGreatDoor
open Go.RowKit Tk Tr

/-- What grows, at block G: the elements, and those that are open. -/
def GS (N B G : Nat) (w : World) (st : St) : Prop := ∃ ev ov, Bk w G 71 #[ev, ov] ∧ OwnE N B w ev st.1 (kidOf st.1) ∧ Owned B w ov st.2
theorem GS.lt {N B G : Nat} {w : World} {st : St} (h : GS N B G w st) : G < w.heap.size := by
  obtain ⟨ev, ov, hb, _⟩ := h
  exact hb.lt
theorem GS.below {N B G : Nat} {w w' : World} {st : St} (h : GS N B G w st) (hb : Below w.heap.size w w') : GS N B G w' st := by
  obtain ⟨ev, ov, h1, h2, h3⟩ := h
  exact ⟨ev, ov, h1.below hb h1.lt, h2.below hb, h3.below hb⟩
theorem GS.more {N M B G : Nat} {w : World} {st : St} (h : GS N B G w st) (hm : N ≤ M) : GS M B G w st := by
  obtain ⟨ev, ov, h1, h2, h3⟩ := h
  exact ⟨ev, ov, h1, h2.more hm, h3⟩
theorem GS.drew {N B G : Nat} {w : World} {st : St} (h : GS N B G w st) : GS N B G w.drew st := h
/-- Two cells of what grows. -/
theorem GS.cells {N B G : Nat} {w : World} {st : St} (h : GS N B G w st) : ∃ A cap A' cap', Bk w G 71 #[.slice A st.1.length cap, .slice A' st.2.length cap'] ∧ OwnE N B w (.slice A st.1.length cap) st.1 (kidOf st.1) ∧ Owned B w (.slice A' st.2.length cap') st.2 := by
  obtain ⟨ev, ov, h1, h2, h3⟩ := h
  obtain ⟨A, cap, rfl⟩ := h2.slice
  obtain ⟨A', cap', rfl⟩ := h3.slice
  exact ⟨A, cap, A', cap', h1, h2, h3⟩
set_option maxHeartbeats 1000000 in
theorem height_any (G : Nat) (A : Option Addr) (n cap : Nat) (w : World) (hc : w.cell? ⟨G, 1, none⟩ = some (.slice A n cap)) :
    Calls Tryz.prog 55 #[.pointer (some ⟨G, 1, none⟩)] w fun e w' => e = .returned (.int .i64 n) ∧ w' = w := by
  go_enter Tryz.func55, Tryz.ntmps55
  go_wp2_with fail
  go_ret
  exact ⟨rfl, rfl⟩
/-- Is all closed? -/
def wholeL (st : St) : Bool := decide (0 < st.1.length) && decide (st.2.length = 0)
set_option maxHeartbeats 1000000 in
theorem whole_any (N B G : Nat) (w : World) (st : St) (h : GS N B G w st) (hok : OkS st) :
    Calls Tryz.prog 31 #[.pointer (some ⟨G, 0, none⟩)] w fun e w' => e = .returned (.bool (wholeL st)) ∧ w' = w := by
  obtain ⟨A, cap, A', cap', hb, _, _⟩ := h.cells
  have c0 : w.cell? ⟨G, 0, none⟩ = some (.slice A st.1.length cap) := hb.cell 0
  have c1 : w.cell? ⟨G, 1, none⟩ = some (.slice A' st.2.length cap') := hb.cell 1
  have HH := Lib.hid (height_any G A' st.2.length cap' w c1)
  have HW : Hid (wholeL st = (decide (0 < st.1.length) && decide (st.2.length = 0))) := rfl
  have hm := hok.many
  have hd := hok.deep
  clear hb h hok
  obtain ⟨n, hn⟩ : ∃ n, st.1.length = n := ⟨_, rfl⟩
  obtain ⟨m, hm2⟩ : ∃ m, st.2.length = m := ⟨_, rfl⟩
  rw [hn] at c0 HW hm
  rw [hm2] at c1 HH HW hd
  clear hn hm2
  by_cases h0 : 0 < n
  · have g0 : decide ((n : Int) > 0) = true := decide_eq_true (by omega)
    by_cases h1 : m = 0
    · have HR : Hid (wholeL st = true) := by unfold Hid; rw [HW.out]; simp [h0, h1]
      subst h1
      go_enter Tryz.func31, Tryz.ntmps31
      go_wp2_with (go_at_call 55; refine HH.out.mono ?_; rintro e w1 ⟨rfl, rfl⟩)
      go_ret
      exact ⟨by rw [HR.out]; rfl, rfl⟩
    · have HR : Hid (wholeL st = false) := by unfold Hid; rw [HW.out]; simp [h1]
      have g1 : ((m : Int) == 0) = false := by simp; omega
      go_enter Tryz.func31, Tryz.ntmps31
      go_wp2_with (go_at_call 55; refine HH.out.mono ?_; rintro e w1 ⟨rfl, rfl⟩)
      go_ret
      exact ⟨by rw [HR.out]; rfl, rfl⟩
  · have HR : Hid (wholeL st = false) := by unfold Hid; rw [HW.out]; simp [h0]
    have g0 : decide ((n : Int) > 0) = false := decide_eq_false (by omega)
    go_enter Tryz.func31, Tryz.ntmps31
    go_wp2_with fail
    go_ret
    exact ⟨by rw [HR.out]; rfl, rfl⟩
set_option maxHeartbeats 1000000 in
/-- The innermost one that is open. -/
theorem top_any (B G : Nat) (w : World) (v : Value) (o : List Nat) (hc : w.cell? ⟨G, 1, none⟩ = some v) (ho : Owned B w v o) (hl : o.length ≤ 1000) (hs : ∀ p ∈ o, p < 1000000) :
    Calls Tryz.prog 74 #[.pointer (some ⟨G, 1, none⟩)] w fun e w' => e = .returned (.tuple #[.int .i64 ((o.getLast?.getD 0 : Nat) : Int), .bool (decide (o ≠ []))]) ∧ Below w.heap.size w w' := by
  obtain ⟨A, cap, hv, hr⟩ := ho.reads
  subst hv
  have HH := Lib.hid (fun W (hW : W.cell? ⟨G, 1, none⟩ = some (.slice A o.length cap)) => height_any G A o.length cap W hW)
  by_cases h0 : o = []
  · subst h0
    go_enter Tryz.func74, Tryz.ntmps74
    go_wp2_with (go_at_call 55; refine (HH.out w hc).mono ?_; rintro e w1 ⟨rfl, rfl⟩)
    refine bodyPost_ret (v := .tuple #[.int .i64 0, .bool false]) (by simp [results, Tryz.results74, go_sem]) rfl ⟨rfl, Below.refl _ _⟩
  · have hpos : 0 < o.length := List.length_pos_iff.2 h0
    obtain ⟨ad, rfl, hlt, hcell⟩ := hr hpos
    obtain ⟨k, hk⟩ : ∃ k, o.length = k + 1 := ⟨o.length - 1, by omega⟩
    have c2 := hcell k (by omega)
    have HL : Hid (o.getLast?.getD 0 = o.getD k 0) := by
      unfold Hid
      rw [List.getLast?_eq_getElem?, hk, List.getD_eq_getElem?_getD]
      rfl
    have HD : Hid (decide (o ≠ []) = true) := decide_eq_true h0
    have hg : ((o.length : Int) == 0) = false := by simp; omega
    obtain ⟨n, hn⟩ : ∃ n, o.length = n := ⟨_, rfl⟩
    obtain ⟨z, hz⟩ : ∃ z, o.getD k 0 = z := ⟨_, rfl⟩
    have hzb : z < 1000000 := by
      rw [← hz, List.getD_eq_getElem?_getD, List.getElem?_eq_getElem (by omega : k < o.length)]
      exact hs _ (List.getElem_mem _)
    rw [hz] at c2 HL
    rw [hn] at hc HH hg hk hl hpos
    have hkn : ((n : Int) - 1) = (k : Int) := by omega
    have hlt2 : (k : Int) < (n : Int) := by omega
    have hkb : (k : Int) ≤ 1000 := by omega
    have hk0 : 0 ≤ (k : Int) := by omega
    clear hcell hr ho hs hk hz hn h0
    go_enter Tryz.func74, Tryz.ntmps74
    go_wp2_with (go_at_call 55; refine (HH.out w hc).mono ?_; rintro e w1 ⟨rfl, rfl⟩)
    go_quiet ((go_at_call 55; exact Calls.quiet_of_same (HH.out _ hc)))
    go_wp2_with fail
    refine bodyPost_ret (v := .tuple #[.int .i64 z, .bool true]) (by simp [results, Tryz.results74, go_sem]) rfl ⟨by rw [HL.out, HD.out], ⟨rfl, rfl, rfl, Nat.le_refl _, fun _ _ => rfl⟩⟩
theorem GS.mk' {N B G : Nat} {w : World} {st : St} {ev ov : Value} (h1 : Bk w G 71 #[ev, ov]) (h2 : OwnE N B w ev st.1 (kidOf st.1)) (h3 : Owned B w ov st.2) : GS N B G w st := ⟨ev, ov, h1, h2, h3⟩
theorem GS.store1 {N B G : Nat} {w : World} {ev ov v : Value} {els : List Nd} {o : List Nat} (hb : Bk w G 71 #[ev, ov]) (he : OwnE N B w ev els (kidOf els)) (ho : Owned B w v o) : GS N B G (w.setCell ⟨G, 1, none⟩ v) (els, o) := by
  refine ⟨ev, v, ?_, he.stored hb (by decide) (by decide) (by decide) _ _, row_keep ho (KeepT.set hb (by decide) _ _)⟩
  have := hb.put 1 v
  simpa using this
theorem GS.store0 {N B G : Nat} {w : World} {ev ov v : Value} {els : List Nd} {fl : Nat → Bool} {o : List Nat} (hb : Bk w G 71 #[ev, ov]) (he : OwnE N B w v els fl) (ho : Owned B w ov o) :
    Bk (w.setCell ⟨G, 0, none⟩ v) G 71 #[v, ov] ∧ OwnE N B (w.setCell ⟨G, 0, none⟩ v) v els fl ∧ Owned B (w.setCell ⟨G, 0, none⟩ v) ov o := by
  refine ⟨?_, he.stored hb (by decide) (by decide) (by decide) _ _, row_keep ho (KeepT.set hb (by decide) _ _)⟩
  have := hb.put 0 v
  simpa using this
set_option maxHeartbeats 2000000 in
theorem put_any (N B G : Nat) (w : World) (els : List Nd) (o : List Nat) (p : Nat) (h : GS N B G w (els, o)) (hl : o.length ≤ 1000) (hB : B ≤ w.heap.size) :
    Calls Tryz.prog 75 #[.pointer (some ⟨G, 1, none⟩), .int .i64 p] w fun e w' => e = .returned (.tuple #[]) ∧ GS N B G w' (els, o ++ [p]) ∧ Tn G B w w' ∧ KeepT 63 w w' := by
  obtain ⟨A, cap, A', cap', hb, he, ho⟩ := h.cells
  simp only at hb he ho
  have c1 : w.cell? ⟨G, 1, none⟩ = some (.slice A' o.length cap') := hb.cell 1
  have HE := Lib.hid he
  have HO := Lib.hid ho
  have HB := Lib.hid hb
  obtain ⟨z, hz⟩ : ∃ z : Int, (p : Int) = z := ⟨_, rfl⟩
  have HZ := Lib.hid hz
  rw [hz]
  clear h he ho hz hb
  go_enter Tryz.func75, Tryz.ntmps75
  go_wp2_with (at_builtin; refine push_int rfl _ _ rfl B (.slice A' o.length cap') o p z HZ.out.symm w rfl HO.out rfl (by omega) hB ?_)
  intro v' w1 o1 b1 k1
  have hb1 := k1 _ _ _ HB.out (by decide)
  have HE1 : OwnE N B w1 (.slice A els.length cap) els (kidOf els) := HE.out.keep (fun k cs hk => k1 k cs _ hk (by decide)) (fun k cs hk => k1 k cs _ hk (by decide)) (fun k cs hk => k1 k cs _ hk (by decide))
  have c1' : w1.cell? ⟨G, 1, none⟩ = some (.slice A' o.length cap') := hb1.cell 1
  have HB1 := Lib.hid hb1
  have KK1 : Hid (KeepT 63 w w1) := fun k cs hk => k1 k cs _ hk (by decide)
  have HE2 := Lib.hid HE1
  have O1 := Lib.hid o1
  have B1 := Lib.hid b1
  have hfr : w1.frozen? ⟨G, 1, none⟩ = false := hb1.free 1
  obtain ⟨A2, cap2, rfl⟩ := o1.slice
  clear o1 b1 k1 hb1 HE1
  go_wp2_with fail
  go_end0
  refine ⟨rfl, ?_, (Tn.of B1.out).set 1 _, KK1.out.trans (KeepT.set HB1.out (by decide) _ _)⟩
  refine GS.store1 HB1.out HE2.out ?_
  have := O1.out
  rwa [List.length_append, List.length_singleton] at this
theorem owned_drop {B : Nat} {w : World} {g n cap : Nat} {o : List Nat} (h : Owned B w (.slice (some ⟨g, 0, none⟩) o.length cap) o) (hn : o.length = n + 1) : Owned B w (.slice (some ⟨g, 0, none⟩) n cap) o.dropLast := by
  have h' : w.ownsRow B 3 1 (.slice (some ⟨g, 0, none⟩) o.length cap) o.length (ints o) := h
  rcases h'.2 with ⟨e, _⟩ | ⟨g', cap', cur, e, h1, h2, h3, h4, h5, h6⟩
  · simp at e
  · injection e with e1 e2 e3
    injection e1 with e1
    injection e1 with e1 _ _
    subst e1 e3
    have hl : o.dropLast.length = n := by rw [List.length_dropLast]; omega
    unfold Owned
    rw [hl]
    refine ⟨by rw [ints_length, hl, Nat.mul_one], .inr ⟨g, cap, cur, rfl, h1, h2, by omega, h4, h5, ?_⟩⟩
    have h7 := congrArg (List.take n) h6
    rw [List.take_take, Nat.mul_one, hn, Nat.min_eq_left (by omega)] at h7
    rw [Nat.mul_one, h7, List.dropLast_eq_take, hn]
    show (ints o).take n = ints (o.take n)
    unfold ints
    rw [List.map_take]
set_option maxHeartbeats 2000000 in
theorem take_any (N B G : Nat) (w : World) (els : List Nd) (o : List Nat) (h : GS N B G w (els, o)) (hl : o.length ≤ 1000) (h0 : o ≠ []) :
    Calls Tryz.prog 76 #[.pointer (some ⟨G, 1, none⟩)] w fun e w' => e = .returned (.tuple #[]) ∧ GS N B G w' (els, o.dropLast) ∧ Tn G B w w' ∧ KeepT 63 w w' := by
  obtain ⟨A, cap, A', cap', hb, he, ho⟩ := h.cells
  simp only at hb he ho
  have hpos : 0 < o.length := List.length_pos_iff.2 h0
  obtain ⟨g, hA, hcap⟩ : ∃ g, A' = some ⟨g, 0, none⟩ ∧ o.length ≤ cap' := by
    rcases ho.2 with ⟨e, h1⟩ | ⟨g, cap2, cur, e, _, _, h1, _⟩
    · omega
    · injection e with e1 e2 e3
      exact ⟨g, e1, by omega⟩
  subst hA
  obtain ⟨k, hk⟩ : ∃ k, o.length = k + 1 := ⟨o.length - 1, by omega⟩
  have HO := Lib.hid (owned_drop ho hk)
  have c1 : w.cell? ⟨G, 1, none⟩ = some (.slice (some ⟨g, 0, none⟩) o.length cap') := hb.cell 1
  have hfr : w.frozen? ⟨G, 1, none⟩ = false := hb.free 1
  have HE := Lib.hid he
  have HB := Lib.hid hb
  obtain ⟨n, hn⟩ : ∃ n, o.length = n := ⟨_, rfl⟩
  rw [hn] at c1 hk hcap hl HB
  have HH := Lib.hid (fun W (hW : W.cell? ⟨G, 1, none⟩ = some (.slice (some ⟨g, 0, none⟩) n cap')) => height_any G _ n cap' W hW)
  have hkn : ((n : Int) - 1) = (k : Int) := by omega
  have hkb : (k : Int) ≤ 1000 := by omega
  have hk0 : 0 ≤ (k : Int) := by omega
  have hkc : k ≤ cap' := by omega
  obtain ⟨c, rfl⟩ : ∃ c, cap' = c + 1 := ⟨cap' - 1, by omega⟩
  have hkc2 : (k : Int) ≤ (c : Int) + 1 := by omega
  have hkw : IntKind.i64.wrap (k : Int) = (k : Int) := by rw [IntKind.wrap_i64]; omega
  clear h he ho hb hn hk hpos
  go_enter Tryz.func76, Tryz.ntmps76
  go_region_with ((go_at_call 55; refine (HH.out _ ?_).mono ?_; exact c1; rintro e w1 ⟨rfl, rfl⟩))
  all_goals
    go_end0
    exact ⟨rfl, (GS.store1 HB.out HE.out HO.out).drew, ((Tn.refl G B w).set 1 _).drew, KeepT.set HB.out (by decide) _ _⟩
end Go.Proofs.YtbkfmbkamocllaaGreatDoor
/-
  package tree: the value of an attribute of a name; Attr.
-/
namespace Go.Proofs.YtbkfmbkamocllaaGreatDoor
open Go.RowKit Tk Tr

theorem bts_inj2 {a b : List UInt8} (h : bts a = bts b) : a = b := congrArg (fun x => x.data.toList) h
theorem bts_eqb2 (a b : List UInt8) : ((bts a).toList == (bts b).toList) = decide (a = b) := by
  rw [ByteArray.toList_mk, ByteArray.toList_mk]
  by_cases h : a = b
  · simp [h]
  · rw [decide_eq_false h]
    simpa using h
theorem bts_self (b : ByteArray) : bts b.data.toList = b := by simp [bts]
set_option maxHeartbeats 1000000 in
theorem namedT_any (C : Nat) (n : List UInt8) (a : Att) (w : World) (hc : w.cell? ⟨C, 0, none⟩ = some (.string (bts n))) :
    Calls Tryz.prog 114 #[agA a, .pointer (some ⟨C, 0, none⟩)] w fun e w' => e = .returned (.bool (decide (a.1 = n))) ∧ Below w.heap.size w w' := by
  have he := bts_eqb2 a.1 n
  have hw : (w.alloc (.cells #[.string (bts a.1), .string (bts a.2)] 45)).cell? ⟨C, 0, none⟩ = some (.string (bts n)) := by
    rw [World.cell?_of_block (a := ⟨C, 0, none⟩) (Below.heap_alloc _ _ _ (World.block_lt_of_cell? w _ hc))]; exact hc
  unfold agA
  generalize bts a.1 = A at *
  generalize bts a.2 = A2 at *
  generalize bts n = N at *
  generalize decide (a.1 = n) = r at *
  go_enter Tryz.func114, Tryz.ntmps114
  go_wp2_with fail
  go_ret
  exact ⟨rfl, (Below.refl _ _).alloc (Nat.le_refl _) _⟩
theorem findA_hit {x : List Att} {k : Nat} {t : Att} {n : List UInt8} (h : x[k]? = some t) (hp : t.1 = n) (hno : ∀ j a, j < k → x[j]? = some a → a.1 ≠ n) : x.find? (fun a => decide (a.1 = n)) = some t := by
  rw [List.find?_eq_some_iff_getElem]
  obtain ⟨h1, h2⟩ := List.getElem?_eq_some_iff.1 h
  exact ⟨by simpa using hp, k, h1, h2, fun j hj => by simpa using hno j _ hj (List.getElem?_eq_getElem (by omega))⟩
theorem findA_miss {x : List Att} {n : List UInt8} (hno : ∀ j a, j < x.length → x[j]? = some a → a.1 ≠ n) : x.find? (fun a => decide (a.1 = n)) = none := by
  rw [List.find?_eq_none]
  intro a ha
  obtain ⟨j, hj, rfl⟩ := List.getElem_of_mem ha
  simpa using hno j _ hj (List.getElem?_eq_getElem hj)
set_option maxHeartbeats 2000000 in
theorem indexTr_any (C : Nat) (n : List UInt8) (v : Value) (x : List Att) (w : World) (hv : ReadA w v x) (hl : x.length ≤ 1000000000000) (hc : w.cell? ⟨C, 0, none⟩ = some (.string (bts n))) :
    Calls Tryz.prog 86 #[v, .func (.func 114) #[] #[.pointer (some ⟨C, 0, none⟩)]] w fun e w' =>
      ((∃ (i : Nat) (t : Att), e = .returned (.int .i64 i) ∧ x[i]? = some t ∧ x.find? (fun a => decide (a.1 = n)) = some t) ∨ (e = .returned (.int .i64 (-1)) ∧ x.find? (fun a => decide (a.1 = n)) = none)) ∧ Below w.heap.size w w' := by
  have eg : ∀ args w, (callFunc 114 args).run Tryz.prog w = .ok (.enter 114 args) w := Go.Proofs.enters_of Tryz.func114 (by kernel_rfl) rfl
  obtain ⟨A, cap, rfl, hx⟩ := hv
  have HX := Lib.hid hx
  have hCl := World.block_lt_of_cell? w _ hc
  have HQ0 := Lib.hid (fun a W (h : Below w.heap.size w W) => namedT_any C n a W ((h.cell (p := ⟨C, 0, none⟩) hCl).trans hc))
  clear hx hc hCl
  go_enter Tryz.func86, Tryz.ntmps86
  go_wp2_with fail
  go_loopw [8] (fun i wr => ∃ (k : Nat), k ≤ x.length ∧ i = .int .i64 k ∧ Hid (∀ j a, j < k → x[j]? = some a → a.1 ≠ n) ∧ Below w.heap.size w wr) (fun i _ => x.length - (intOf i).toNat)
  case atStart => exact ⟨0, Nat.zero_le _, rfl, Lib.hid (fun j a h => absurd h (Nat.not_lt_zero _)), Below.refl _ _⟩
  case round =>
    obtain ⟨k, hk, rfl, hno, hb⟩ := hrel
    have hsw := hb.size
    by_cases hlt : k < x.length
    · obtain ⟨ad, rfl, hlb, hc⟩ := HX.out (by omega)
      obtain ⟨c, hcx⟩ : ∃ c, x[k]? = some c := ⟨_, List.getElem?_eq_getElem hlt⟩
      obtain ⟨c0, c1⟩ := hc k c hcx
      rw [← hb.cell (p := ad.add (k * 2)) (by rw [addBlock]; exact hlb)] at c0
      rw [← hb.cell (p := ⟨(ad.add (k * 2)).block, (ad.add (k * 2)).off + 1, none⟩) (by show (ad.add (k * 2)).block < _; rw [addBlock]; exact hlb)] at c1
      have HC := Lib.hid hcx
      have HQ := Lib.hid (HQ0.out c wr hb)
      unfold agA at HQ
      obtain ⟨a0, h0⟩ : ∃ a, bts c.1 = a := ⟨_, rfl⟩
      obtain ⟨a1, h1⟩ : ∃ a, bts c.2 = a := ⟨_, rfl⟩
      rw [h0, h1] at HQ
      rw [h0] at c0
      rw [h1] at c1
      clear hc hcx h0 h1
      go_wp2_with fail
      refine HQ.out.mono ?_
      rintro e w2 ⟨rfl, b2⟩
      have hb2 : Below w.heap.size w w2 := hb.trans (b2.mono hsw)
      by_cases hq : c.1 = n
      · have hd : decide (c.1 = n) = true := decide_eq_true hq
        have hf := Lib.hid (findA_hit HC.out hq hno.out)
        rw [hd]
        clear hq hd b2
        go_wp2_with fail
        go_ret
        exact ⟨.inl ⟨k, c, rfl, HC.out, hf.out⟩, hb2⟩
      · have hd : decide (c.1 = n) = false := decide_eq_false hq
        have hno2 : Hid (∀ j a, j < k + 1 → x[j]? = some a → a.1 ≠ n) := Lib.hid (fun j a hj ha => by
          rcases Nat.lt_or_ge j k with h | h
          · exact hno.out j a h ha
          · obtain rfl : j = k := by omega
            rw [HC.out] at ha
            cases ha
            exact hq)
        rw [hd]
        clear hq hd b2
        go_wp2_with fail
        go_roundw
        case rel => exact ⟨k + 1, by omega, by go_num, hno2, hb2⟩
        case measure => simp [intOf]; omega
    · have hke : Hid (x.length ≤ k) := by unfold Hid; omega
      have hf := Lib.hid (findA_miss (x := x) (n := n) (fun j a hj ha => hno.out j a (by have := hke.out; omega) ha))
      go_wp2_with fail
      go_ret
      exact ⟨.inr ⟨rfl, hf.out⟩, hb⟩
set_option maxHeartbeats 2000000 in
theorem valueT_any (u : Value) (x : List Att) (n : List UInt8) (w : World) (hu : ReadA w u x) (hl : x.length ≤ 1000000000000) :
    Calls Tryz.prog 100 #[u, .string (bts n)] w fun e w' => e = .returned (.tuple #[.string (bts (attrOf x n).1), .bool (attrOf x n).2]) ∧ Below w.heap.size w w' := by
  have HB : Hid (Below w.heap.size w (w.alloc (.cells #[.string (bts n)] 9))) := (Below.refl _ _).alloc (Nat.le_refl _) _
  have hi := indexTr_any w.heap.size n u x _ (hu.below HB.out) hl ((Bk.new w 9 #[.string (bts n)]).cell 0)
  have HI := Lib.hid hi
  have HU := Lib.hid (hu.below HB.out)
  obtain ⟨A, cap, rfl, _⟩ := hu
  have HA : Hid (attrOf x n = match x.find? (fun a => decide (a.1 = n)) with | some a => (a.2, true) | none => ([], false)) := rfl
  clear hi
  go_enter Tryz.func100, Tryz.ntmps100
  go_wp2_with fail
  refine HI.out.mono ?_
  rintro e w2 ⟨hres, b2⟩
  have B2 : Hid (Below w.heap.size w w2) := HB.out.trans (b2.mono HB.out.size)
  have U2 := Lib.hid (HU.out.below b2)
  clear b2
  rcases hres with ⟨i, t, rfl, hit, hf⟩ | ⟨rfl, hf⟩
  · have HR : Hid (attrOf x n = (t.2, true)) := by unfold Hid; rw [HA.out, hf]
    have hil := (List.getElem?_eq_some_iff.1 hit).1
    obtain ⟨A', cap', e', hcells⟩ := U2.out
    injection e' with e1 e2 e3
    subst e1 e3
    obtain ⟨ad, rfl, hgl, hat⟩ := hcells (by omega)
    obtain ⟨k0, k1⟩ := hat i t hit
    have hlt : (i : Int) < (x.length : Int) := by omega
    have hneg : decide ((i : Int) < 0) = false := decide_eq_false (by omega)
    clear hit hf hcells hat e2
    go_wp2_with fail
    refine bodyPost_ret (v := .tuple #[.string (bts t.2), .bool true]) (by simp [results, Tryz.results100, go_sem]) rfl ⟨by rw [HR.out], B2.out⟩
  · have HR : Hid (attrOf x n = ([], false)) := by unfold Hid; rw [HA.out, hf]
    clear hf
    go_wp2_with fail
    refine bodyPost_ret (v := .tuple #[.string ⟨#[]⟩, .bool false]) (by simp [results, Tryz.results100, go_sem]) rfl ⟨by rw [HR.out], B2.out⟩
end Go.Proofs.YtbkfmbkamocllaaGreatDoor
