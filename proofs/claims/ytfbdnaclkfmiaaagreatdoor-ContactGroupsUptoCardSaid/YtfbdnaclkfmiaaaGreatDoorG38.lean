import Derived.Test.YtfbdnaclkfmiaaaGreatDoorG37
import Derived.Sort.Grow
import Derived.Test.YtfbdnaclkfmiaaaGreatDoorG35
import Derived.Test.YtfbdnaclkfmiaaaGreatDoorG32
import Derived.Test.YtfbdnaclkfmiaaaGreatDoorG33
import Derived.Test.YtfbdnaclkfmiaaaGreatDoorG27
section
/- what is reached of it -/
namespace Go.Proofs.YtfbdnaclkfmiaaaGreatDoor
open Go.RowKit Vc Ct
/-- Only blocks that S names may have turned. -/
structure But (S : Nat → Prop) (w w' : World) : Prop where
  os : w'.os = w.os
  tape : w'.tape = w.tape
  output : w'.output = w.output
  size : w.heap.size ≤ w'.heap.size
  block : ∀ k, k < w.heap.size → ¬ S k → w'.heap[k]? = w.heap[k]?
theorem But.refl (S : Nat → Prop) (w : World) : But S w w := ⟨rfl, rfl, rfl, Nat.le_refl _, fun _ _ _ => rfl⟩
theorem But.trans {S : Nat → Prop} {a b c : World} (h : But S a b) (k : But S b c) : But S a c :=
  ⟨k.os.trans h.os, k.tape.trans h.tape, k.output.trans h.output, Nat.le_trans h.size k.size, fun i hi hs => (k.block i (Nat.lt_of_lt_of_le hi h.size) hs).trans (h.block i hi hs)⟩
theorem But.of_grown {S : Nat → Prop} {a b : World} {g : Nat} (h : a.grownBy b (some g)) (hs : S g) : But S a b := ⟨h.os, h.tape, h.output, h.size, fun i hi hn => h.block i hi (fun e => by injection e with e; exact hn (e ▸ hs))⟩
theorem But.of_below {S : Nat → Prop} {B : Nat} {a b : World} (h : Below B a b) (hs : ∀ i, B ≤ i → i < a.heap.size → S i) : But S a b := ⟨h.os, h.tape, h.output, h.size, fun i hi hn => h.block i (Nat.lt_of_not_le fun e => hn (hs i e hi))⟩
theorem But.new {S : Nat → Prop} {a b : World} (h : Below a.heap.size a b) : But S a b := ⟨h.os, h.tape, h.output, h.size, fun i hi _ => h.block i hi⟩
theorem But.bk {S : Nat → Prop} {a b : World} {g : Nat} {t : TypeId} {cs : Array Value} (h : But S a b) (hk : Bk a g t cs) (hn : ¬ S g) : Bk b g t cs := (h.block g hk.lt hn).trans hk
theorem But.below {S : Nat → Prop} {a b : World} {B : Nat} (h : But S a b) (hB : B ≤ a.heap.size) (hn : ∀ i, i < B → ¬ S i) : Below B a b := ⟨h.os, h.tape, h.output, h.size, fun i hi => h.block i (by omega) (hn i hi)⟩
theorem But.grown {a b : World} {g : Nat} (h : But (· = g) a b) : a.grownBy b (some g) := ⟨h.os, h.tape, h.output, h.size, fun i hi hn => h.block i hi (fun e => hn (by rw [e]))⟩
/-- A block of texts. -/
def Txts (w : World) (h : Nat) (xs : List (List UInt8)) : Prop := ∃ cs : Array Value, Bk w h 9 cs ∧ ∀ (j : Nat) (x : List UInt8), xs[j]? = some x → cs[j]? = some (Value.string (bts x))
theorem Txts.cell {w : World} {h : Nat} {xs : List (List UInt8)} (t : Txts w h xs) {j : Nat} {x : List UInt8} (hj : xs[j]? = some x) : w.cell? ⟨h, j, none⟩ = some (.string (bts x)) := by
  obtain ⟨cs, hk, hc⟩ := t
  rw [hk.cell]
  exact hc j x hj
theorem Txts.lt {w : World} {h : Nat} {xs : List (List UInt8)} (t : Txts w h xs) : h < w.heap.size := by
  obtain ⟨cs, hk, _⟩ := t
  exact hk.lt
theorem Txts.but {S : Nat → Prop} {a b : World} {h : Nat} {xs : List (List UInt8)} (t : Txts a h xs) (hb : But S a b) (hn : ¬ S h) : Txts b h xs := by
  obtain ⟨cs, hk, hc⟩ := t
  exact ⟨cs, hb.bk hk hn, hc⟩
theorem Txts.holds {w : World} {h : Nat} {xs : List (List UInt8)} (t : Txts w h xs) : Go.Sort.Holds encStr w h 0 xs.toArray := by
  obtain ⟨cs, hk, hc⟩ := t
  intro j hj
  have hj2 : j < xs.length := by simpa using hj
  rw [Nat.zero_add, hk.cell, hc j xs[j] (List.getElem?_eq_getElem hj2), getElem!_pos _ j hj]
  exact ⟨by simp [encStr], hk.free j⟩
/-- texts laid in the place of as many -/
theorem Txts.put {w : World} {h : Nat} {xs ys : List (List UInt8)} (t : Txts w h xs) (hl : ys.length = xs.length) (n : Nat) (os : Array Obj) : Txts (Go.Sort.grow (Go.Sort.putRow encStr (Go.Sort.ahead w n) h 0 ys.toArray) os) h ys ∧ But (· = h) w (Go.Sort.grow (Go.Sort.putRow encStr (Go.Sort.ahead w n) h 0 ys.toArray) os) := by
  have hH := t.holds
  have hlt := t.lt
  obtain ⟨cs, hk, hc⟩ := t
  have hsz : (Go.Sort.putRow encStr (Go.Sort.ahead w n) h 0 ys.toArray).heap.size = w.heap.size := by rw [Go.Sort.size_putRow]; rfl
  have hK : (Go.Sort.putRow encStr (Go.Sort.ahead w n) h 0 ys.toArray).heap[h]? = some (.cells (Go.Sort.putCells encStr 0 ys.toArray cs) 9 (0, 0)) := by
    unfold Go.Sort.putRow Go.Sort.mapBlock
    have e : (Go.Sort.ahead w n).heap[h]? = some (.cells cs 9 (0, 0)) := hk
    show ((Go.Sort.ahead w n).heap.modify h _)[h]? = _
    rw [Array.getElem?_modify, if_pos rfl, e]
    rfl
  refine ⟨⟨Go.Sort.putCells encStr 0 ys.toArray cs, (Go.Sort.heap_grow_old _ os (by rw [hsz]; exact hlt)).trans hK, fun j y hj => ?_⟩, ⟨rfl, rfl, rfl, ?_, fun i hi hne => ?_⟩⟩
  · have hj2 : j < ys.length := (List.getElem?_eq_some_iff.1 hj).1
    obtain ⟨x, hx⟩ : ∃ x, xs[j]? = some x := ⟨_, List.getElem?_eq_getElem (by omega)⟩
    have hcj := hc j x hx
    unfold Go.Sort.putCells
    rw [Array.getElem?_mapIdx, hcj, Option.map_some, if_pos ⟨Nat.zero_le _, by simpa using hj2⟩, Nat.sub_zero, getElem!_pos _ j (by simpa using hj2)]
    have e3 : ys[j] = y := (List.getElem?_eq_some_iff.1 hj).2
    rw [← e3]
    simp [encStr]
  · rw [Go.Sort.size_grow, hsz]; omega
  · rw [Go.Sort.heap_grow_old _ os (by rw [hsz]; exact hi)]
    unfold Go.Sort.putRow Go.Sort.mapBlock
    show ((Go.Sort.ahead w n).heap.modify h _)[i]? = _
    rw [Array.getElem?_modify, if_neg (fun e => hne e.symm)]
    rfl
theorem compact_le (l : List (List UInt8)) : (Lib.compact l).length ≤ l.length := by
  unfold Lib.compact Lib.compactUpTo
  rw [List.length_map]
  exact Nat.le_trans (List.length_filter_le _ _) (by simp)
theorem But.on {S : Nat → Prop} {a b c : World} (h : But S a b) (k : Below a.heap.size b c) : But S a c :=
  ⟨k.os.trans h.os, k.tape.trans h.tape, k.output.trans h.output, Nat.le_trans h.size k.size, fun i hi hs => (k.block i hi).trans (h.block i hi hs)⟩
theorem Txts.below {w w' : World} {h B : Nat} {xs : List (List UInt8)} (t : Txts w h xs) (hb : Below B w w') (hh : h < B) : Txts w' h xs := by
  obtain ⟨cs, hk, hc⟩ := t
  exact ⟨cs, hk.below hb hh, hc⟩
theorem Txts.set {w : World} {g h o : Nat} {xs : List (List UInt8)} (t : Txts w h xs) (hn : h ≠ g) (u : Value) : Txts (w.setCell ⟨g, o, none⟩ u) h xs := by
  obtain ⟨cs, hk, hc⟩ := t
  exact ⟨cs, hk.far hn u, hc⟩
theorem Txts.more {w : World} {h : Nat} {xs ys : List (List UInt8)} (t : Txts w h (xs ++ ys)) : Txts w h xs := by
  obtain ⟨cs, hk, hc⟩ := t
  exact ⟨cs, hk, fun j x hj => hc j x (by rw [List.getElem?_append_left (List.getElem?_eq_some_iff.1 hj).1]; exact hj)⟩
theorem OwnT.set {B g o : Nat} {w : World} {v u : Value} {x : List ByteArray} (h : OwnT B w v x) (hg : g < B) : OwnT B (w.setCell ⟨g, o, none⟩ u) v x :=
  h.kept fun j hj => Below.heap_setCell _ _ _ _ (by have := (h.low hj).1; show j ≠ g; omega)
theorem con_groups (c : Con) (l : List (List UInt8)) (gv u o : Value) : (conCells { c with groups := l } gv o).setIfInBounds 9 u = conCells { c with groups := l } u o := rfl
set_option maxHeartbeats 4000000 in
set_option maxRecDepth 100000 in
theorem putGroups_any (g h cap : Nat) (c : Con) (o : Value) (xs : List (List UInt8)) (n : Nat) (hn : xs.length = n) (hnb : n ≤ 1000000) (hcap : n ≤ cap) (W : World) (hk : Bk W g 25 (conCells c (.slice none 0 0) o)) (ht : Txts W h xs) :
    Calls Tryz.prog 73 #[.pointer (some ⟨g, 0, none⟩), .slice (some ⟨h, 0, none⟩) n cap] W fun e W' => e = .returned (.int .i64 0) ∧ ∃ gv, Bk W' g 25 (conCells { c with groups := groupsL xs } gv o) ∧ OwnT W.heap.size W' gv (sts (groupsL xs)) ∧ But (fun i => i = g ∨ i = h) W W' := by
  have hgh : g ≠ h := by
    obtain ⟨cs, k, _⟩ := ht
    exact Bk.type_ne hk k (by decide)
  have HN := Lib.hid hn
  have H1 := Tryz.slices_Sort_string h 0 cap xs W ht.holds ht.lt (by omega)
  rw [hn] at H1
  have HS := Lib.hid H1
  have HT := Lib.hid ht
  have HK := Lib.hid hk
  have HGW := Lib.hid (groups_way xs)
  have HGH : Hid (g ≠ h) := hgh
  obtain ⟨B, hB⟩ : ∃ B, W.heap.size = B := ⟨_, rfl⟩
  have HB := Lib.hid hB
  clear H1 hn ht hk hgh
  go_enter Tryz.func73, Tryz.ntmps73
  go_wp2_with fail
  refine HS.out.mono ?_
  rintro e w1 ⟨rfl, n1, os1, hw1⟩
  obtain ⟨ys, hys⟩ : ∃ ys, (xs.mergeSort fun x y => decide (x ≤ y)) = ys := ⟨_, rfl⟩
  rw [hys] at hw1 HGW
  have hyl : ys.length = n := by rw [← hys, List.length_mergeSort, HN.out]
  have hp1 := HT.out.put (ys := ys) (by rw [hyl, HN.out]) n1 os1
  rw [← hw1] at hp1
  obtain ⟨t1, b1⟩ := hp1
  have H2 := Tryz.slices_Compact_string h 0 cap ys w1 t1.holds (by omega) (by omega)
  rw [hyl] at H2
  have HC := Lib.hid H2
  have T1 := Lib.hid t1
  have B1 := Lib.hid b1
  have HYL := Lib.hid hyl
  clear hw1 hys t1 b1 H2 hyl
  go_wp2_with fail
  refine HC.out.mono ?_
  rintro e w2 ⟨rfl, n2, hw2⟩
  obtain ⟨zs, hzs⟩ : ∃ zs, Lib.compact ys = zs := ⟨_, rfl⟩
  rw [hzs] at hw2 HGW ⊢
  have hzl : zs.length ≤ n := by rw [← hzs, ← HYL.out]; exact compact_le ys
  have hp2 := T1.out.put (ys := zs ++ List.replicate (n - zs.length) []) (by rw [List.length_append, List.length_replicate, HYL.out]; omega) n2 #[]
  rw [Go.Sort.grow_empty, ← hw2] at hp2
  obtain ⟨t2, b2⟩ := hp2
  have T2 : Hid (Txts w2 h zs) := t2.more
  have B2 : Hid (But (fun i => i = g ∨ i = h) W w2) := ⟨b2.os.trans B1.out.os, b2.tape.trans B1.out.tape, b2.output.trans B1.out.output, Nat.le_trans B1.out.size b2.size, fun i hi hs => (b2.block i (Nat.lt_of_lt_of_le hi B1.out.size) (fun e => hs (.inr e))).trans (B1.out.block i hi (fun e => hs (.inr e)))⟩
  have K2 : Hid (Bk w2 g 25 (conCells { c with groups := (zs.take 0).filter (fun x => decide (x ≠ [])) } (.slice none 0 0) o)) := b2.bk (B1.out.bk HK.out HGH.out) HGH.out
  have O2 : Hid (OwnT B w2 (.slice none 0 0) (sts ((zs.take 0).filter (fun x => decide (x ≠ []))))) := OwnT.nil _ _
  obtain ⟨zn, hzn⟩ : ∃ z, zs.length = z := ⟨_, rfl⟩
  have HZN := Lib.hid hzn
  have hgB : g < B := by rw [← hB]; exact HK.out.lt
  have hhB : h < B := by rw [← hB]; exact HT.out.lt
  have HHB : Hid (g < B ∧ h < B) := ⟨hgB, hhB⟩
  rw [hzn] at hzl ⊢
  clear hw2 hzs t2 b2 hB hzn hgB hhB
  go_wp2_with fail
  go_loopw [12] (fun iv wr => ∃ (k : Nat) (gv : Value), iv = .int .i64 k ∧ k ≤ zn ∧ Hid (Bk wr g 25 (conCells { c with groups := (zs.take k).filter (fun x => decide (x ≠ [])) } gv o)) ∧ Hid (OwnT B wr gv (sts ((zs.take k).filter (fun x => decide (x ≠ []))))) ∧ Hid (But (fun i => i = g ∨ i = h) W wr) ∧ Hid (Txts wr h zs)) (fun iv _ => zn - (intOf iv).toNat)
  case atStart => exact ⟨0, _, rfl, Nat.zero_le _, K2, O2, B2, T2⟩
  case round =>
    obtain ⟨k, gv, rfl, hk, KG, OG, BG, TG⟩ := hrel
    by_cases hlt : k < zn
    · obtain ⟨x, hx⟩ : ∃ x, zs[k]? = some x := ⟨_, List.getElem?_eq_getElem (by rw [HZN.out]; exact hlt)⟩
      have c0 := TG.out.cell hx
      have eb := emptyB (l := x)
      have htk := Lib.hid (filter_take (fun x => decide (x ≠ [])) hx)
      obtain ⟨X, hX⟩ : ∃ X, bts x = X := ⟨_, rfl⟩
      have HX := Lib.hid hX
      rw [hX] at c0 eb
      have hfl : Hid ((sts ((zs.take k).filter (fun x => decide (x ≠ [])))).length ≤ 1000000) := by
        unfold Hid
        have h1 := List.length_filter_le (fun x : List UInt8 => decide (x ≠ [])) (zs.take k)
        have h2 : (zs.take k).length ≤ k := by rw [List.length_take]; omega
        unfold sts
        rw [List.length_map]
        omega
      clear hx hX
      by_cases he : x = []
      · rw [decide_eq_true he] at eb
        have e2 : (zs.take (k + 1)).filter (fun x => decide (x ≠ [])) = (zs.take k).filter (fun x => decide (x ≠ [])) := by rw [htk.out, he]; simp
        have E2 := Lib.hid e2
        clear e2 he
        go_wp2_with fail
        go_roundw
        case rel => exact ⟨k + 1, gv, by go_num, by omega, by rw [E2.out]; exact KG, by rw [E2.out]; exact OG, BG, TG⟩
        case measure => simp [intOf]; omega
      · rw [decide_eq_false he] at eb
        have e2 : (zs.take (k + 1)).filter (fun x => decide (x ≠ [])) = (zs.take k).filter (fun x => decide (x ≠ [])) ++ [x] := by rw [htk.out, decide_eq_true he]; rfl
        have E2 := Lib.hid e2
        obtain ⟨GA, gcap, hgv⟩ := OG.out.slice
        obtain ⟨gm, hgm⟩ : ∃ m, (sts ((zs.take k).filter (fun x => decide (x ≠ [])))).length = m := ⟨_, rfl⟩
        rw [hgm] at hgv
        subst hgv
        have k9 : wr.cell? ⟨g, 9, none⟩ = some (.slice GA gm gcap) := KG.out.cell 9
        have f9 : wr.frozen? ⟨g, 9, none⟩ = false := KG.out.free 9
        have ZB : Hid (B ≤ wr.heap.size) := by have := BG.out.size; have := HB.out; unfold Hid; omega
        have hl2 : Hid ((sts ((zs.take k).filter (fun x => decide (x ≠ [])))).length ≤ 1000000000000) := by have := hfl.out; unfold Hid; omega
        clear e2 he hgm
        go_wp2_with (at_builtin; refine push_str rfl _ _ rfl B (.slice GA gm gcap) _ X wr rfl OG.out rfl hl2.out ZB.out ?_)
        intro v5 w5 o5 b5
        have O5 := Lib.hid o5
        have k5 := KG.out.below b5 HHB.out.1
        have K5 := Lib.hid k5
        have T5 := Lib.hid (TG.out.below b5 HHB.out.2)
        have G5 : Hid (But (fun i => i = g ∨ i = h) W w5) := BG.out.on (by rw [HB.out]; exact b5)
        have f5 : w5.frozen? ⟨g, 9, none⟩ = false := k5.free 9
        have c5 : w5.cell? ⟨g, 9, none⟩ = some (.slice GA gm gcap) := k5.cell 9
        obtain ⟨A5, m5, p5, rfl⟩ : ∃ A n cap, v5 = .slice A n cap := by obtain ⟨A, cap, e⟩ := o5.slice; exact ⟨A, _, cap, e⟩
        clear o5 b5 k5
        go_wp2_with fail
        go_roundw
        case rel =>
          refine ⟨k + 1, .slice A5 m5 p5, by go_num, by omega, ?_, ?_, ?_, T5.out.set (fun e => HGH.out e.symm) _⟩
          · have := K5.out.put 9 (.slice A5 m5 p5)
            rw [con_groups] at this
            exact this
          · unfold Hid
            have h6 := O5.out.set (g := g) (o := 9) (u := .slice A5 m5 p5) HHB.out.1
            rw [E2.out, sts_append, show sts [x] = [X] from by rw [← HX.out]; rfl]
            simpa using h6
          · exact G5.out.trans (But.of_grown (grown_set _) (.inl rfl))
        case measure => simp [intOf]; omega
    · have hke : zs.take k = zs := List.take_of_length_le (by rw [HZN.out]; omega)
      have K8 := KG.out
      have O8 := OG.out
      rw [hke, HGW.out] at K8 O8
      have K9 := Lib.hid K8
      have O9 := Lib.hid O8
      clear K8 O8 hke
      go_wp2_with fail
      go_ret
      exact ⟨rfl, gv, K9.out, by rw [HB.out]; exact O9.out, BG.out⟩
end Go.Proofs.YtfbdnaclkfmiaaaGreatDoor
end
section
/- what is reached of it -/
namespace Go.Proofs.YtfbdnaclkfmiaaaGreatDoor
open Go.RowKit Vc Ct
theorem own_txts {B : Nat} {w : World} {v : Value} {xs : List (List UInt8)} (h : OwnT B w v (sts xs)) (hne : xs ≠ []) : ∃ h cap, v = .slice (some ⟨h, 0, none⟩) xs.length cap ∧ B ≤ h ∧ xs.length ≤ cap ∧ Txts w h xs := by
  have hl : (sts xs).length = xs.length := by unfold sts; rw [List.length_map]
  have h' : w.ownsRow B 9 1 v (sts xs).length (strs (sts xs)) := h
  rcases h'.2 with ⟨rfl, h0⟩ | ⟨g, cap, cur, rfl, hg, hh, h1, h2, h3, h4⟩
  · rw [hl] at h0
    exact absurd (List.eq_nil_of_length_eq_zero h0) hne
  · refine ⟨g, cap, by rw [hl], hg, by rw [hl] at h1; omega, cur, hh, fun j x hj => ?_⟩
    have hx : (sts xs)[j]? = some (bts x) := by unfold sts; rw [List.getElem?_map, hj]; rfl
    have := h'.cells (g := g) rfl j _ (strs_get hx)
    rw [add_at, Nat.zero_add, (show Bk w g 9 cur from hh).cell] at this
    exact this
theorem Txts.own {w : World} {h : Nat} {xs : List (List UInt8)} (t : Txts w h xs) (cap : Nat) : ReadT w.heap.size w (.slice (some ⟨h, 0, none⟩) xs.length cap) (sts xs) := by
  refine ReadT.made (by unfold sts; rw [List.length_map]) t.lt (fun i b hi => ?_)
  unfold sts at hi
  rw [List.getElem?_map] at hi
  obtain ⟨x, hx, rfl⟩ := Option.map_eq_some_iff.1 hi
  rw [Nat.zero_add]
  exact t.cell hx
/-- What becomes of the contact at g of which a value was read. -/
def ReadE (W : World) (g i : Nat) (r : Nat × Con) (gv o : Value) (e : Ending) (W' : World) : Prop :=
  e = .returned (.int .i64 (r.1 : Nat)) ∧ (r.1 = 0 → ∃ gv', Bk W' g 25 (conCells r.2 gv' o) ∧ OwnT (g + 1) W' gv' (sts r.2.groups) ∧ (i ≠ 6 → gv' = gv)) ∧ But (· = g) W W'
/-- texts that may be put -/
def OkX (i : Nat) (xs : List (List UInt8)) : Prop := (i ≠ 1 → i ≠ 6 → xs.length = 1) ∧ xs.length ≤ 1000000 ∧ ∀ x ∈ xs, x.length ≤ 1000000
/-- P puts texts of the kind i into the contact at g. -/
def PutAs (W0 : World) (g i : Nat) (P : Value) (c : Con) (gv o : Value) : Prop := ∃ (F : FuncId) (cb : Array Value), P = .func (.func F) #[] cb ∧ (∀ args W, (callFunc F args).run Tryz.prog W = .ok (.enter F args) W) ∧
  ∀ (xs : List (List UInt8)) (W : World) (h cap : Nat), OkX i xs → Below W0.heap.size W0 W → W0.heap.size ≤ h → Txts W h xs → xs.length ≤ cap → Calls Tryz.prog F (#[.pointer (some ⟨g, 0, none⟩), .slice (some ⟨h, 0, none⟩) xs.length cap] ++ cb) W (ReadE W0 g i (putR i xs c) gv o)
theorem But.fresh {W0 W W' : World} {g : Nat} (h0 : Below W0.heap.size W0 W) (h : W.grownBy W' (some g)) : But (· = g) W0 W' :=
  (But.new h0).trans (But.of_grown h rfl)
theorem OwnT.butg {g : Nat} {W W' : World} {v : Value} {x : List ByteArray} (h : OwnT (g + 1) W v x) (hb : But (· = g) W W') : OwnT (g + 1) W' v x :=
  h.kept fun j hj => hb.block j (h.low hj).2 (by have := (h.low hj).1; omega)
theorem set_groups2 (n t : List UInt8) (c : Con) : (setC n t c).groups = c.groups := set_groups n t c
theorem OwnT.weakT {B B' : Nat} {w : World} {v : Value} {x : List ByteArray} (h : OwnT B w v x) (hB : B' ≤ B) : OwnT B' w v x :=
  ⟨h.1, h.2.imp id fun ⟨g, cap, cur, k1, k2, k3⟩ => ⟨g, cap, cur, k1, Nat.le_trans hB k2, k3⟩⟩
theorem putAs_text {i : Nat} (hi : i < 9) (ht : isT i = true) {b : Nat → Nat} {W0 : World} {g : Nat} {c : Con} {gv o : Value} (hk : Bk W0 g 25 (conCells c gv o)) (hg : OwnT (g + 1) W0 gv (sts c.groups)) (hb : KindsAt b W0) :
    PutAs W0 g i (.func (.func 105) #[] #[.pointer (some ⟨b i, 0, none⟩)]) c gv o := by
  refine ⟨_, _, rfl, Go.Proofs.enters_of Tryz.func105 (by kernel_rfl) rfl, fun xs W h cap hx hW hh htx hcap => ?_⟩
  have hne : i ≠ 1 ∧ i ≠ 3 ∧ i ≠ 6 := by
    unfold isT at ht
    simp only [Bool.and_eq_true, bne_iff_ne] at ht
    exact ⟨ht.1.1, ht.1.2, ht.2⟩
  have hl := hx.1 hne.1 hne.2.2
  obtain ⟨x, rfl⟩ : ∃ x, xs = [x] := List.length_eq_one_iff.1 hl
  have e : putR i [x] c = (0, setC (kname i) x c) := by
    unfold putR
    rw [if_neg hne.1, if_neg hne.2.2, if_neg hne.2.1]
    rfl
  rw [e]
  refine (putText_any hi ht (b i) g c gv o ⟨h, 0, none⟩ cap x W (hk.below hW hk.lt) ((hb i hi ht).below hW (hb i hi ht).lt) (htx.cell (j := 0) rfl)).mono ?_
  rintro e w' ⟨rfl, h2, h3⟩
  have hbut := But.fresh hW h3
  exact ⟨rfl, fun _ => ⟨gv, h2, by rw [set_groups2]; exact hg.butg hbut, fun _ => rfl⟩, hbut⟩
theorem putAs_names {W0 : World} {g : Nat} {c : Con} {gv o : Value} (hk : Bk W0 g 25 (conCells c gv o)) (hg : OwnT (g + 1) W0 gv (sts c.groups)) : PutAs W0 g 1 (.func (.func 66) #[] #[]) c gv o := by
  refine ⟨_, _, rfl, Go.Proofs.enters_of Tryz.func66 (by kernel_rfl) rfl, fun xs W h cap hx hW hh htx hcap => ?_⟩
  have hgl := hk.lt
  refine (putNames_any g h cap c gv o xs xs.length rfl hx.2.1 W (hk.below hW hk.lt) (fun j x hj => htx.cell hj) (by omega)).mono ?_
  rintro e w' ⟨rfl, h2, h3⟩
  have hbut := But.fresh hW h3
  have e1 : putR 1 xs c = fiveC c xs := rfl
  rw [e1]
  exact ⟨rfl, fun h0 => ⟨gv, h2 h0, by rw [five_groups]; exact hg.butg hbut, fun _ => rfl⟩, hbut⟩
theorem putAs_jid {W0 : World} (hO : Okw W0) {g : Nat} {c : Con} {gv o : Value} (hk : Bk W0 g 25 (conCells c gv o)) (hg : OwnT (g + 1) W0 gv (sts c.groups)) : PutAs W0 g 3 (.func (.func 69) #[] #[]) c gv o := by
  refine ⟨_, _, rfl, Go.Proofs.enters_of Tryz.func69 (by kernel_rfl) rfl, fun xs W h cap hx hW hh htx hcap => ?_⟩
  have hl := hx.1 (by decide) (by decide)
  obtain ⟨x, rfl⟩ : ∃ x, xs = [x] := List.length_eq_one_iff.1 hl
  refine (putJid_any g h cap c gv o x W (hO.below hW) (hk.below hW hk.lt) (htx.cell (j := 0) rfl) (hx.2.2 x (by simp))).mono ?_
  rintro e w' ⟨rfl, h2, h3⟩
  have hbut := But.fresh hW h3
  have e1 : putR 3 [x] c = ((Jd.bareL x).2, { c with jid := (Jd.bareL x).1 }) := rfl
  rw [e1]
  exact ⟨rfl, fun h0 => ⟨gv, h2 h0, hg.butg hbut, fun _ => rfl⟩, hbut⟩
theorem putAs_groups {W0 : World} {g : Nat} {c : Con} {o : Value} (hk : Bk W0 g 25 (conCells c (.slice none 0 0) o)) : PutAs W0 g 6 (.func (.func 73) #[] #[]) c (.slice none 0 0) o := by
  refine ⟨_, _, rfl, Go.Proofs.enters_of Tryz.func73 (by kernel_rfl) rfl, fun xs W h cap hx hW hh htx hcap => ?_⟩
  have hgl := hk.lt
  refine (putGroups_any g h cap c o xs xs.length rfl hx.2.1 hcap W (hk.below hW hk.lt) htx).mono ?_
  rintro e w' ⟨rfl, gv', h2, h3, h4⟩
  have e1 : putR 6 xs c = (0, { c with groups := groupsL xs }) := rfl
  rw [e1]
  have hws := hW.size
  refine ⟨rfl, fun _ => ⟨gv', h2, h3.weakT (by omega), fun h => absurd rfl h⟩, ⟨h4.os.trans hW.os, h4.tape.trans hW.tape, h4.output.trans hW.output, Nat.le_trans hW.size h4.size, fun j hj hn => ?_⟩⟩
  refine (h4.block j (by omega) (fun e => ?_)).trans (hW.block j hj)
  rcases e with e | e
  · exact hn e
  · omega
/-- each kind puts -/
theorem putAs_any {i : Nat} (hi : i < 9) {b : Nat → Nat} {W0 : World} (hO : Okw W0) {g : Nat} {c : Con} {gv o : Value} (hk : Bk W0 g 25 (conCells c gv o)) (hg : OwnT (g + 1) W0 gv (sts c.groups)) (hb : KindsAt b W0) (h6 : i = 6 → gv = .slice none 0 0) :
    PutAs W0 g i (putV b i) c gv o := by
  rcases kcases hi with rfl | rfl | rfl | rfl | rfl | rfl | rfl | rfl | rfl
  · exact putAs_text (i := 0) hi rfl hk hg hb
  · exact putAs_names hk hg
  · exact putAs_text (i := 2) hi rfl hk hg hb
  · exact putAs_jid hO hk hg
  · exact putAs_text (i := 4) hi rfl hk hg hb
  · exact putAs_text (i := 5) hi rfl hk hg hb
  · obtain rfl := h6 rfl
    exact putAs_groups hk
  · exact putAs_text (i := 7) hi rfl hk hg hb
  · exact putAs_text (i := 8) hi rfl hk hg hb
end Go.Proofs.YtfbdnaclkfmiaaaGreatDoor
end
