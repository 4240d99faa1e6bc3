import Derived.Test.YtbgaglcgennhiaaGreatDoorB12
import Derived.Lib.Hide
import Derived.Shelf.Abstract
/- what is reached of it -/
namespace Go.Proofs.YtbgaglcgennhiaaGreatDoor
open Go.RowKit Rg
/-- Is one of l, with its place, as asked? -/
def anyAt (l : List R) (p : Nat → R → Bool) : Bool := (List.range l.length).any fun k => match l[k]? with
  | some r => p k r
  | none => false
theorem anyAt_hit {l : List R} {p : Nat → R → Bool} {k : Nat} {r : R} (h : l[k]? = some r) (hp : p k r = true) : anyAt l p = true := by
  unfold anyAt
  rw [List.any_eq_true]
  exact ⟨k, List.mem_range.2 (List.getElem?_eq_some_iff.1 h).1, by rw [h]; exact hp⟩
theorem anyAt_miss {l : List R} {p : Nat → R → Bool} (h : ∀ (k : Nat) r, k < l.length → l[k]? = some r → p k r = false) : anyAt l p = false := by
  unfold anyAt
  rw [List.any_eq_false]
  intro k hk
  have hk2 := List.mem_range.1 hk
  rw [List.getElem?_eq_getElem hk2]
  simpa using h k _ hk2 (List.getElem?_eq_getElem hk2)

set_option maxHeartbeats 1000000 in
theorem search_any (g : Nat) (cb : Array Value) (eg : ∀ args w, (callFunc g args).run Tryz.prog w = .ok (.enter g args) w) (v : Value) (l : List R) (p : Nat → R → Bool) (w : World) (hv : ReadR w.heap.size w v l) (hl : l.length ≤ 140737488355328)
    (hp : ∀ (k : Nat) r W, l[k]? = some r → Below w.heap.size w W → Calls Tryz.prog g (#[.int .i64 k, .agg #[.int .i64 r.1, .int .i64 r.2]] ++ cb) W fun e w' => e = .returned (.bool (p k r)) ∧ Below W.heap.size W w') :
    Calls Tryz.prog 242 #[v, .func (.func g) #[] cb] w fun e w' => e = .returned (.bool (anyAt l p)) ∧ Below w.heap.size w w' := by
  obtain ⟨A, cap, rfl, _, hx⟩ := hv
  have HX := Lib.hid hx
  have HP := Lib.hid hp
  have HH := Lib.hid (fun (k : Nat) (r : R) (h : l[k]? = some r) (h2 : p k r = true) => anyAt_hit h h2)
  have HM := Lib.hid (fun (h : ∀ (k : Nat) r, k < l.length → l[k]? = some r → p k r = false) => anyAt_miss h)
  clear hx hp
  go_enter Tryz.func242, Tryz.ntmps242
  go_wp2_with fail
  go_loopw [9] (fun i wr => ∃ (k : Nat), k ≤ l.length ∧ i = .int .i64 k ∧ Hid (∀ (j : Nat) r, j < k → l[j]? = some r → p j r = false) ∧ Below w.heap.size w wr) (fun i _ => l.length - (intOf i).toNat)
  case atStart => exact ⟨0, Nat.zero_le _, rfl, Lib.hid (fun j r h => absurd h (Nat.not_lt_zero _)), Below.refl _ _⟩
  case round =>
    obtain ⟨k, hk, rfl, hno, hb⟩ := hrel
    have hsw := hb.size
    by_cases hlt : k < l.length
    · obtain ⟨ad, rfl, hlb, hc⟩ := HX.out (by omega)
      obtain ⟨r, hr⟩ : ∃ r, l[k]? = some r := ⟨_, List.getElem?_eq_getElem hlt⟩
      obtain ⟨c0, c1⟩ := hc k r hr
      rw [← hb.cell (p := ad.add (k * 2)) (by rw [addBlock]; omega)] at c0
      rw [← hb.cell (p := ⟨(ad.add (k * 2)).block, (ad.add (k * 2)).off + 1, none⟩) (by show (ad.add (k * 2)).block < _; rw [addBlock]; omega)] at c1
      have HR := Lib.hid hr
      clear hr hc
      go_wp2_with fail
      have hb1 := hb.alloc hsw (.cells #[.int .i64 r.1, .int .i64 r.2] 185)
      refine (HP.out k r _ HR.out hb1).mono ?_
      rintro e w2 ⟨rfl, b2⟩
      have hb2 : Below w.heap.size w w2 := hb1.trans (b2.mono (by simp; omega))
      cases hq : p k r with
      | true =>
        have hf := HH.out k r HR.out hq
        clear hq b2 hb1
        go_wp2_with fail
        go_ret
        exact ⟨ret_bool hf.symm, hb2⟩
      | false =>
        have hno2 : Hid (∀ (j : Nat) s, j < k + 1 → l[j]? = some s → p j s = false) := Lib.hid (fun j s hj hjs => by
          rcases Nat.lt_or_ge j k with h | h
          · exact hno.out j s h hjs
          · obtain rfl : j = k := by omega
            obtain rfl : r = s := Option.some.inj (HR.out.symm.trans hjs)
            exact hq)
        clear hq b2 hb1
        go_wp2_with fail
        go_roundw
        case rel => exact ⟨k + 1, by omega, by go_num, hno2, hb2⟩
        case measure => simp [intOf]; omega
    · have hke : k = l.length := by omega
      have hf := HM.out (fun j r hj hjr => hno.out j r (by omega) hjr)
      clear hke
      go_wp2_with fail
      go_ret
      exact ⟨ret_bool hf.symm, hb⟩

/-- what is asked of a range and its place: is it wrong? -/
def askR (l : List R) (k : Nat) (r : R) : Bool := decide (r.2 < r.1) || (decide (0 < k) && match l[k - 1]? with
  | some p => decide (r.1 ≤ p.2)
  | none => false)
theorem askR_bad {l : List R} {k : Nat} {r : R} (h : l[k]? = some r) : askR l k r = true ↔ Bad l k := by
  unfold askR
  cases k with
  | zero =>
    simp only [Nat.lt_irrefl, decide_false, Bool.false_and, Bool.or_false, decide_eq_true_eq]
    constructor
    · intro h2; exact bad_at h h2
    · rintro ⟨s, hs, h2⟩
      obtain rfl : r = s := Option.some.inj (h.symm.trans hs)
      rcases h2 with h2 | ⟨j, p, hj, _⟩ <;> omega
  | succ j =>
    have hj : j < l.length := by have := (List.getElem?_eq_some_iff.1 h).1; omega
    simp only [Nat.add_sub_cancel, List.getElem?_eq_getElem hj, Nat.zero_lt_succ, decide_true, Bool.true_and, Bool.or_eq_true, decide_eq_true_eq]
    constructor
    · rintro (h2 | h2)
      · exact bad_at h h2
      · exact bad_next h (List.getElem?_eq_getElem hj) h2
    · rintro ⟨s, hs, h2⟩
      obtain rfl : r = s := Option.some.inj (h.symm.trans hs)
      rcases h2 with h2 | ⟨j', p, hj', hp, h3⟩
      · exact .inl h2
      · obtain rfl : j' = j := by omega
        rw [List.getElem?_eq_getElem hj] at hp
        cases hp
        exact .inr h3
theorem anyAt_askR (l : List R) : anyAt l (askR l) = !rightB l := by
  cases h : rightB l with
  | true =>
    refine anyAt_miss fun k r _ hr => ?_
    cases h2 : askR l k r with
    | false => rfl
    | true => exact absurd ((askR_bad hr).1 h2) (rightB_iff.1 h k)
  | false =>
    have : ∃ i, Bad l i := Classical.byContradiction fun hn => by
      rw [rightB_iff.2 fun i hi => hn ⟨i, hi⟩] at h
      cases h
    obtain ⟨i, hi⟩ := this
    have hi2 := hi
    obtain ⟨r, hr, _⟩ := hi
    exact anyAt_hit hr ((askR_bad hr).2 hi2)

set_option maxHeartbeats 1000000 in
/-- the closure in Right, at the first place -/
theorem right1_zero (bx : Nat) (a b : Int) (W : World) :
    Calls Tryz.prog 244 #[.int .i64 0, .agg #[.int .i64 a, .int .i64 b], .pointer (some ⟨bx, 0, none⟩)] W fun e w' => e = .returned (.bool (decide (b < a))) ∧ Below W.heap.size W w' := by
  have hbl := (Below.refl W.heap.size W).alloc (Nat.le_refl _) (.cells #[.int .i64 a, .int .i64 b] 185)
  rcases Bool.eq_false_or_eq_true (decide (b < a)) with h | h
  all_goals
    rw [h]
    go_enter Tryz.func244, Tryz.ntmps244
    go_wp2_with fail
    go_big_quiet (fail)
    go_wp2_with fail
    go_ret
    exact ⟨rfl, drewN_below hbl _⟩
set_option maxHeartbeats 2000000 in
/-- .. and at another: it has captured l's box -/
theorem right1_next (bx : Nat) (ad : Addr) (n cap j : Nat) (z a b y : Int) (W : World) (hbx : W.cell? ⟨bx, 0, none⟩ = some (.slice (some ad) n cap)) (hlt : bx < W.heap.size) (had : ad.block < W.heap.size)
    (hj : j < n) (hz : decide (0 < z) = true) (hw : wrap64 (z - 1) = (j : Int)) (c1 : W.cell? ⟨(ad.add (j * 2)).block, (ad.add (j * 2)).off + 1, none⟩ = some (.int .i64 y)) :
    Calls Tryz.prog 244 #[.int .i64 z, .agg #[.int .i64 a, .int .i64 b], .pointer (some ⟨bx, 0, none⟩)] W fun e w' => e = .returned (.bool (decide (b < a) || decide (a ≤ y))) ∧ Below W.heap.size W w' := by
  have hbl := (Below.refl W.heap.size W).alloc (Nat.le_refl _) (.cells #[.int .i64 a, .int .i64 b] 185)
  have cb2 : (W.alloc (.cells #[.int .i64 a, .int .i64 b] 185)).cell? ⟨bx, 0, none⟩ = some (.slice (some ad) n cap) := by rw [← hbx]; exact World.cell?_of_block (Below.heap_alloc W _ bx hlt)
  have c1' : (W.alloc (.cells #[.int .i64 a, .int .i64 b] 185)).cell? ⟨(ad.add (j * 2)).block, (ad.add (j * 2)).off + 1, none⟩ = some (.int .i64 y) := by
    rw [← c1]
    exact World.cell?_of_block (Below.heap_alloc W _ _ (by show (ad.add (j * 2)).block < _; rw [addBlock]; exact had))
  clear hbx c1 had
  rcases Bool.eq_false_or_eq_true (decide (b < a)) with h | h
  · rw [h, Bool.true_or]
    clear hz hw cb2 c1'
    go_enter Tryz.func244, Tryz.ntmps244
    go_wp2_with fail
    go_big_quiet (fail)
    go_wp2_with fail
    go_ret
    exact ⟨rfl, drewN_below hbl _⟩
  · rw [h, Bool.false_or]
    rcases Bool.eq_false_or_eq_true (decide (a ≤ y)) with h2 | h2
    all_goals
      rw [h2]
      go_enter Tryz.func244, Tryz.ntmps244
      go_wp2_with fail
      go_big_quiet (fail)
      go_wp2_with fail
      go_ret
      exact ⟨rfl, drewN_below hbl _⟩
set_option maxHeartbeats 1000000 in
theorem right_any (v : Value) (l : List R) (w : World) (hv : ReadR w.heap.size w v l) (hl : l.length ≤ 140737488355328) : Calls Tryz.prog 216 #[v] w fun e w' => e = .returned (.bool (rightB l)) ∧ Below w.heap.size w w' := by
  have hv2 := hv
  obtain ⟨A, cap, rfl, _, hc⟩ := hv
  have hb1 : Below w.heap.size w (w.alloc (.cells #[.slice A l.length cap] 166)) := (Below.refl _ w).alloc (Nat.le_refl _) _
  have hk := Bk.new w 166 #[.slice A l.length cap]
  have eg : ∀ args w, (callFunc 244 args).run Tryz.prog w = .ok (.enter 244 args) w := Go.Proofs.enters_of Tryz.func244 (by kernel_rfl) rfl
  have HS := search_any 244 #[.pointer (some ⟨w.heap.size, 0, none⟩)] eg (.slice A l.length cap) l (askR l) (w.alloc (.cells #[.slice A l.length cap] 166)) ((hv2.below hb1).more (by simp)) hl (fun k r W hr hb => by
    have hkl := (List.getElem?_eq_some_iff.1 hr).1
    have hs1 := hb.size
    rw [World.size_alloc] at hs1
    obtain ⟨a, b⟩ := r
    cases k with
    | zero =>
      have hres : askR l 0 (a, b) = decide (b < a) := by simp [askR]
      rw [hres]
      exact right1_zero w.heap.size a b W
    | succ j =>
      obtain ⟨ad, rfl, hlb, hx⟩ := hc (by omega)
      obtain ⟨⟨x, y⟩, hp⟩ : ∃ p, l[j]? = some p := ⟨_, List.getElem?_eq_getElem (by omega)⟩
      have hres : askR l (j + 1) (a, b) = (decide (b < a) || decide (a ≤ y)) := by simp [askR, hp]
      rw [hres]
      refine right1_next w.heap.size ad l.length cap j ((j + 1 : Nat) : Int) a b y W ?_ (by omega) (by omega) (by omega) (decide_eq_true (by omega)) (by unfold wrap64; omega) ?_
      · exact (hk.below (hb.mono (by simp)) (Nat.lt_succ_self _)).cell 0
      · rw [(hb1.trans (hb.mono (by simp))).cell (by show (ad.add (j * 2)).block < _; rw [addBlock]; exact hlb)]
        exact (hx j _ hp).2)
  rw [anyAt_askR] at HS
  have HO := Lib.hid HS
  have hc0 := hk.cell 0
  clear HS hc hv2 eg hk
  go_enter Tryz.func216, Tryz.ntmps216
  go_wp2_with fail
  refine HO.out.mono ?_
  rintro e w2 ⟨rfl, b2⟩
  have hb2 : Below w.heap.size w w2 := hb1.trans (b2.mono (by simp))
  go_wp2_with fail
  go_ret
  exact ⟨ret_bool (by simp), hb2⟩

set_option maxHeartbeats 1000000 in
theorem in1_any (bx : Nat) (z a b c : Int) (W : World) (hbx : W.cell? ⟨bx, 0, none⟩ = some (.int .i64 c)) (hlt : bx < W.heap.size) :
    Calls Tryz.prog 243 #[.int .i64 z, .agg #[.int .i64 a, .int .i64 b], .pointer (some ⟨bx, 0, none⟩)] W fun e w' => e = .returned (.bool (decide (a ≤ c) && decide (c ≤ b))) ∧ Below W.heap.size W w' := by
  have hbl := (Below.refl W.heap.size W).alloc (Nat.le_refl _) (.cells #[.int .i64 a, .int .i64 b] 185)
  have cb2 : (W.alloc (.cells #[.int .i64 a, .int .i64 b] 185)).cell? ⟨bx, 0, none⟩ = some (.int .i64 c) := by rw [← hbx]; exact World.cell?_of_block (Below.heap_alloc W _ bx hlt)
  clear hbx
  rcases Bool.eq_false_or_eq_true (decide (a ≤ c)) with h | h
  · rcases Bool.eq_false_or_eq_true (decide (c ≤ b)) with h2 | h2
    all_goals
      rw [h, h2]
      go_enter Tryz.func243, Tryz.ntmps243
      go_wp2_with fail
      go_ret
      exact ⟨rfl, hbl⟩
  · rw [h, Bool.false_and]
    go_enter Tryz.func243, Tryz.ntmps243
    go_wp2_with fail
    go_ret
    exact ⟨rfl, hbl⟩
theorem anyAt_in (l : List R) (c : Int) : anyAt l (fun _ r => decide (r.1 ≤ c) && decide (c ≤ r.2)) = inL l c := by
  cases h : inL l c with
  | true =>
    obtain ⟨r, hr, h2⟩ := inL_iff.1 h
    obtain ⟨j, hj, rfl⟩ := List.mem_iff_getElem.1 hr
    exact anyAt_hit (List.getElem?_eq_getElem hj) (by simpa using h2)
  | false =>
    refine anyAt_miss fun k r _ hr => ?_
    cases h2 : decide (r.1 ≤ c) && decide (c ≤ r.2) with
    | false => rfl
    | true =>
      rw [inL_hit hr (by simp at h2; exact h2.1) (by simp at h2; exact h2.2)] at h
      cases h
set_option maxHeartbeats 1000000 in
theorem in_any (v : Value) (l : List R) (c : Int) (w : World) (hv : ReadR w.heap.size w v l) (hl : l.length ≤ 140737488355328) : Calls Tryz.prog 215 #[v, .int .i64 c] w fun e w' => e = .returned (.bool (inL l c)) ∧ Below w.heap.size w w' := by
  have hb1 : Below w.heap.size w (w.alloc (.cells #[.int .i64 c] 3)) := (Below.refl _ w).alloc (Nat.le_refl _) _
  have hk := Bk.new w 3 #[.int .i64 c]
  have eg : ∀ args w, (callFunc 243 args).run Tryz.prog w = .ok (.enter 243 args) w := Go.Proofs.enters_of Tryz.func243 (by kernel_rfl) rfl
  have HS := search_any 243 #[.pointer (some ⟨w.heap.size, 0, none⟩)] eg v l (fun _ r => decide (r.1 ≤ c) && decide (c ≤ r.2)) (w.alloc (.cells #[.int .i64 c] 3)) ((hv.below hb1).more (by simp)) hl (fun k r W hr hb => by
    have hs1 := hb.size
    rw [World.size_alloc] at hs1
    obtain ⟨a, b⟩ := r
    refine in1_any w.heap.size _ a b c W ?_ (by omega)
    exact (hk.below (hb.mono (by simp)) (Nat.lt_succ_self _)).cell 0)
  rw [anyAt_in] at HS
  obtain ⟨A, cap, rfl, _, _⟩ := hv
  have HO := Lib.hid HS
  clear HS eg hk
  go_enter Tryz.func215, Tryz.ntmps215
  go_wp2_with fail
  refine HO.out.mono ?_
  rintro e w2 ⟨rfl, b2⟩
  have hb2 : Below w.heap.size w w2 := hb1.trans (b2.mono (by simp))
  go_wp2_with fail
  go_ret
  exact ⟨rfl, hb2⟩
end Go.Proofs.YtbgaglcgennhiaaGreatDoor
