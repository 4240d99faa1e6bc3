/-
  cardexref08: begin.
-/
import Derived.Test.YtpomcamkkcggmaaGreatDoorRtA
import Derived.Deep.DeepCutAuto
import Derived.Test.YtpomcamkkcggmaaGreatDoorAny
namespace Go.Proofs.YtpomcamkkcggmaaGreatDoor
open Go.RowKit Tk Tr

theorem RS.of_puts {B G : Nat} {w : World} {l0 t0 ov lv tv : Value} {st : St} (g : Bk w G 57 #[l0, ov, t0]) (hn : OwnN B w lv (st.1.map bare)) (ho : Owned B w ov st.2) (ht : OwnT B w tv (st.1.map txt)) :
    RS B G ((w.setCell ⟨G, 0, none⟩ lv).setCell ⟨G, 2, none⟩ tv) st := by
  have g1 : Bk (w.setCell ⟨G, 0, none⟩ lv) G 57 #[lv, ov, t0] := by simpa using Bk.put g 0 lv
  have g2 : Bk ((w.setCell ⟨G, 0, none⟩ lv).setCell ⟨G, 2, none⟩ tv) G 57 #[lv, ov, tv] := by simpa using Bk.put g1 2 tv
  refine ⟨lv, ov, tv, g2, ?_, ?_, ?_⟩
  · exact (hn.keep (KeepT.set g (by decide) 0 lv) (KeepT.set g (by decide) 0 lv)).keep (KeepT.set g1 (by decide) 2 tv) (KeepT.set g1 (by decide) 2 tv)
  · exact row_keep (row_keep ho (KeepT.set g (by decide) 0 lv)) (KeepT.set g1 (by decide) 2 tv)
  · exact (ht.keep (KeepT.set g (by decide) 0 lv)).keep (KeepT.set g1 (by decide) 2 tv)
theorem RS.of_put1 {B G : Nat} {w : World} {l0 t0 o0 ov : Value} {st : St} (g : Bk w G 57 #[l0, o0, t0]) (hn : OwnN B w l0 (st.1.map bare)) (ho : Owned B w ov st.2) (ht : OwnT B w t0 (st.1.map txt)) :
    RS B G (w.setCell ⟨G, 1, none⟩ ov) st := by
  have g1 : Bk (w.setCell ⟨G, 1, none⟩ ov) G 57 #[l0, ov, t0] := by simpa using Bk.put g 1 ov
  exact ⟨l0, ov, t0, g1, hn.keep (KeepT.set g (by decide) 1 ov) (KeepT.set g (by decide) 1 ov), row_keep ho (KeepT.set g (by decide) 1 ov), ht.keep (KeepT.set g (by decide) 1 ov)⟩
/-- An append of one node, in a region that draws its order: every block but the row's own stands. -/
theorem step_nodex {ops : Array Oper} {o : Oper} {a : Act} {K : Act → World → Prop} {Q : Exit → Act → World → Prop} {E : Prop} (hgd : o.guard = none) (s y : Operand) (ho : o.op = .call { callee := .builtin .append, args := #[s, y], argTypes := #[23, 23] })
    (B : Nat) (v : Value) (ns : List Nd) (x : Nd) (av : Value) (k0 k1 : Int) (s2 s3 s5 : ByteArray) (e0 : x.1 = k0) (e1 : x.2.1 = k1) (e2 : bts x.2.2.1 = s2) (e3 : bts x.2.2.2.1 = s3) (e5 : bts x.2.2.2.2.2 = s5) (W : World) (H : Nat)
    (hWb : Bk W H 34 #[.int .i64 k0, .int .i64 k1, .string s2, .string s3, av, .string s5])
    (hs : a.eval s = v) (hown : OwnN B W v ns) (hu : RowA W av x.2.2.2.2.1) (hy : a.eval y = .slice (some ⟨H, 0, none⟩) 1 1) (hn : ns.length ≤ 1000000000) (hB : B ≤ W.heap.size)
    (h : ∀ v' w', OwnN B w' v' (ns ++ [x]) → Below B W w' → (∀ k cs t, Bk W k t cs → v.ownBlock ≠ some k → Bk w' k t cs) → (∀ k cs t, Bk W k t cs → t ≠ 34 → Bk w' k t cs) → K (a.put o.dst v') w') : if Region.wanted o (yielded ops a.tmps) = true then Oper.wp Tryz.prog o a W K Q else E := by
  have hw : Region.wanted o (yielded ops a.tmps) = true := by simp [Region.wanted, hgd]
  rw [if_pos hw]
  subst e0 e1 e2 e3 e5
  obtain ⟨i0, hi, hz0, hz1, hz2⟩ := info_parts infoNod
  obtain ⟨ks, hks, hown', hr⟩ := hown
  have hl : ns.length = ks.length := by rw [← hks, List.length_map]
  have hmul : (ks.length + 1) * 88 ≤ 140737488355328 := by omega
  refine wp_append_own _ s y 23 ho B 34 i0 _ 6 88 Tryz.underlying23 hi hz0 hz1 hz2 rfl (by decide) v ks.length (nds ks) hs hown' ⟨H, 0, none⟩ 1 1 (encN (x, av)) hy rfl ?_ ?_ ?_ hmul hB ?_
  · intro j u hj
    rw [add_at, hWb.cell, Nat.zero_add, List.getElem?_toArray]
    exact hj
  · intro u hy
    simp [encN] at hy
    rcases hy with rfl | rfl | rfl | rfl | rfl | rfl
    · rfl
    · rfl
    · rfl
    · rfl
    · exact hu.one
    · rfl
  · unfold maxLen; omega
  · intro v' w' hown2 hg _
    have hrow : ∀ g, v.ownBlock = some g → ∃ cs, Bk W g 34 cs := row_block hown'
    have hk : ∀ k cs t, Bk W k t cs → t ≠ 34 → Bk w' k t cs := fun k cs t hk ht => KeepT.grown hg hrow (fun e => ht e.symm) k cs hk
    exact h v' w' (OwnN.pushed x av hks hr hu hown2 (fun k cs hkk => hk k cs _ hkk (by decide))) ((Below.refl _ _).grown hg hB (fun j hj => (World.ownsRow.lt hown' j hj).1)) (fun k cs t hk hne => (hg.block k hk.lt (fun e => hne e.symm)).trans hk) hk
/-- What stands while the document's two rows grow. -/
structure Grow (B G X T : Nat) (w0 : World) (l0 ov t0 av : Value) (xc tc : Array Value) (al : List Att) (op : List Nat) (nv : Value) (nl : List Nd) (tv : Value) (tl : List (List UInt8)) (w : World) : Prop where
  g : Bk w G 57 #[l0, ov, t0]
  x : Bk w X 34 xc
  t : Bk w T 45 tc
  n : OwnN B w nv nl
  s : OwnT B w tv tl
  o : Owned B w ov op
  a : RowA w av al
  b : Below B w0 w
  z : B ≤ w.heap.size
theorem Grow.below {B G X T : Nat} {w0 w w' : World} {l0 ov t0 av nv tv : Value} {xc tc : Array Value} {al : List Att} {op : List Nat} {nl : List Nd} {tl : List (List UInt8)} (h : Grow B G X T w0 l0 ov t0 av xc tc al op nv nl tv tl w) (hb : Below w.heap.size w w') : Grow B G X T w0 l0 ov t0 av xc tc al op nv nl tv tl w' :=
  ⟨h.g.below hb h.g.lt, h.x.below hb h.x.lt, h.t.below hb h.t.lt, h.n.below hb, h.s.keep (.below hb), h.o.below hb, h.a.keep (.below hb), h.b.trans (hb.mono h.z), Nat.le_trans h.z hb.size⟩
theorem grow_node {ops : Array Oper} {o : Oper} {a : Act} {K : Act → World → Prop} {Q : Exit → Act → World → Prop} {E : Prop} (hgd : o.guard = none) (s y : Operand) (ho : o.op = .call { callee := .builtin .append, args := #[s, y], argTypes := #[23, 23] })
    {B G X T H : Nat} {w0 W : World} {l0 ov t0 av nv tv : Value} {xc tc : Array Value} {op : List Nat} {nl : List Nd} {tl : List (List UInt8)} (x : Nd) (h : Grow B G X T w0 l0 ov t0 av xc tc x.2.2.2.2.1 op nv nl tv tl W) (k0 k1 : Int) (s2 s3 s5 : ByteArray)
    (e0 : x.1 = k0) (e1 : x.2.1 = k1) (e2 : bts x.2.2.1 = s2) (e3 : bts x.2.2.2.1 = s3) (e5 : bts x.2.2.2.2.2 = s5) (hWb : Bk W H 34 #[.int .i64 k0, .int .i64 k1, .string s2, .string s3, av, .string s5])
    (hs : a.eval s = nv) (hy : a.eval y = .slice (some ⟨H, 0, none⟩) 1 1) (hn : nl.length ≤ 1000000000) (hX : nv.ownBlock ≠ some X)
    (hK : ∀ v' w', Grow B G X T w0 l0 ov t0 av xc tc x.2.2.2.2.1 op v' (nl ++ [x]) tv tl w' → (∀ k cs t, Bk W k t cs → t ≠ 34 → Bk w' k t cs) → K (a.put o.dst v') w') : if Region.wanted o (yielded ops a.tmps) = true then Oper.wp Tryz.prog o a W K Q else E :=
  step_nodex hgd s y ho B nv nl x av k0 k1 s2 s3 s5 e0 e1 e2 e3 e5 W H hWb hs h.n h.a hy hn h.z (fun v' w' o9 b9 kx9 k9 => hK v' w'
    ⟨k9 _ _ _ h.g (by decide), kx9 _ _ _ h.x hX, k9 _ _ _ h.t (by decide), o9, h.s.keep (fun k cs hk => k9 k cs _ hk (by decide)), row_keep h.o (fun k cs hk => k9 k cs _ hk (by decide)), h.a.keep (fun k cs hk => k9 k cs _ hk (by decide)), h.b.trans b9, Nat.le_trans h.z b9.size⟩ k9)
theorem grow_text {ops : Array Oper} {o : Oper} {a : Act} {K : Act → World → Prop} {Q : Exit → Act → World → Prop} {E : Prop} (hgd : o.guard = none) (s y : Operand) (ho : o.op = .call { callee := .builtin .append, args := #[s, y], argTypes := #[42, 42] })
    {B G X T H : Nat} {w0 W : World} {l0 ov t0 av nv tv : Value} {xc tc : Array Value} {al : List Att} {op : List Nat} {nl : List Nd} {tl : List (List UInt8)} (h : Grow B G X T w0 l0 ov t0 av xc tc al op nv nl tv tl W) (c : List UInt8) (sc : ByteArray) (hc : bts c = sc)
    (hWb : Bk W H 9 #[.string sc]) (hs : a.eval s = tv) (hy : a.eval y = .slice (some ⟨H, 0, none⟩) 1 1) (hn : tl.length ≤ 1000000000)
    (hK : ∀ v' w', Grow B G X T w0 l0 ov t0 av xc tc al op nv nl v' (tl ++ [c]) w' → K (a.put o.dst v') w') : if Region.wanted o (yielded ops a.tmps) = true then Oper.wp Tryz.prog o a W K Q else E :=
  step_text hgd s y ho B tv tl c sc hc W W H (Below.refl _ _) hWb hs h.s hy hn h.z (fun v' w' o9 b9 k9 => hK v' w'
    ⟨k9 _ _ _ h.g (by decide), k9 _ _ _ h.x (by decide), k9 _ _ _ h.t (by decide), h.n.keep (fun k cs hk => k9 k cs _ hk (by decide)) (fun k cs hk => k9 k cs _ hk (by decide)), o9, row_keep h.o (fun k cs hk => k9 k cs _ hk (by decide)), h.a.keep (fun k cs hk => k9 k cs _ hk (by decide)), h.b.trans b9, Nat.le_trans h.z b9.size⟩)
theorem no_more {b : Bool} {p : Prop} (h : b = true) (hv : b = false) : p := Bool.noConfusion (h.symm.trans hv)
/-- how a step of what grows ends -/
def RStep (B G : Nat) (w : World) (bad : Nat) (st st' : St) (e : Ending) (w' : World) : Prop := e = .returned (.int .i64 (bad : Nat)) ∧ RS B G w' (if bad = 0 then st' else st) ∧ Tn G B w w'
theorem top_neg (st : St) : (st.2 = [] → topI st.2 < 0) ∧ (st.2 ≠ [] → 0 ≤ topI st.2) := by
  constructor
  · intro h; rw [h]; decide
  · intro h
    unfold topI
    cases ho : st.2.getLast? with
    | none => exact absurd (List.getLast?_eq_none_iff.1 ho) h
    | some p => simp only; omega
set_option linter.unusedSimpArgs false in
set_option maxHeartbeats 8000000 in
set_option maxRecDepth 100000 in
theorem rbegin_any (B G : Nat) (w : World) (st : St) (t : TokI) (u : Value) (h : RS B G w st) (hok : OkS st) (hu : ReadA w u t.2.2.2.2.1) (hl : t.2.2.2.2.1.length ≤ 1000000000) (hG : G < B) (hB : B ≤ w.heap.size) :
    Calls Tryz.prog 37 #[.pointer (some ⟨G, 0, none⟩), agT t u, .int .i64 (topI st.2)] w fun e w' => RStep B G w (badOpen st) st (beginL st t) e w' := by
  have HOK := Lib.hid hok
  unfold agT
  obtain ⟨UA, ucap, rfl, hu2⟩ := id hu
  have HUC0 := Lib.hid hu2
  obtain ⟨T, hT⟩ : ∃ T, w.heap.size = T := ⟨_, rfl⟩
  obtain ⟨a0, h0⟩ : ∃ a : Int, t.1 = a := ⟨_, rfl⟩
  obtain ⟨a1, h1⟩ : ∃ a : Int, t.2.1 = a := ⟨_, rfl⟩
  obtain ⟨a2, h2⟩ : ∃ a, bts t.2.2.1 = a := ⟨_, rfl⟩
  obtain ⟨a3, h3⟩ : ∃ a, bts t.2.2.2.1 = a := ⟨_, rfl⟩
  obtain ⟨a5, h5⟩ : ∃ a, t.2.2.2.2.2 = a := ⟨_, rfl⟩
  obtain ⟨al, hal⟩ : ∃ al, t.2.2.2.2.1 = al := ⟨_, rfl⟩
  have HRES : Hid (nodeOf st t = (topI st.2, a1, t.2.2.1, spaceOf st al, others al, [])) := by unfold Hid nodeOf; rw [hal, h1]
  have HBEG : Hid (beginL st t = (st.1 ++ [nodeOf st t], if a5 then st.2 else st.2 ++ [st.1.length])) := by unfold Hid beginL; rw [h5]
  have HA2 := Lib.hid h2
  rw [hal] at hu hl HUC0
  rw [h0, h1, h2, h3, h5, hal]
  obtain ⟨un, hun⟩ : ∃ n, al.length = n := ⟨_, rfl⟩
  have HUN := Lib.hid hun
  rw [hun] at hl HUC0 ⊢
  obtain ⟨W1, hW1⟩ : ∃ W1, w.alloc (.cells #[.int .i64 a0, .int .i64 a1, .string a2, .string a3, .slice UA un ucap, .bool a5] 45) = W1 := ⟨_, rfl⟩
  have hw1 : Below w.heap.size w W1 := by rw [← hW1]; exact (Below.refl _ _).alloc (Nat.le_refl _) _
  have G1 := h.below hw1
  obtain ⟨A, cap, OA, ocap, XA, xcap, gb, gn, go, gt⟩ := G1.cells
  have KT : Hid (Bk W1 T 45 #[.int .i64 a0, .int .i64 a1, .string a2, .string a3, .slice UA un ucap, .bool a5]) := by rw [← hW1, ← hT]; exact Bk.new _ _ _
  have hZ1 : W1.heap.size = T + 1 := by rw [← hW1, World.size_alloc, hT]
  have HGS := Lib.hid G1
  have HGW := Lib.hid h
  have N1 : Hid (Tn G B w W1) := Tn.of (hw1.mono hB)
  have HW1 := Lib.hid hW1
  have HTT := Lib.hid hT
  have HG := Lib.hid hG
  have HB := Lib.hid hB
  have GB := Lib.hid gb
  have HZ1 := Lib.hid hZ1
  have c0 : W1.cell? ⟨G, 0, none⟩ = some (.slice A st.1.length cap) := gb.cell 0
  have c1 : W1.cell? ⟨G, 1, none⟩ = some (.slice OA st.2.length ocap) := gb.cell 1
  have GN := Lib.hid gn
  obtain ⟨htn1, htn2⟩ := top_neg st
  obtain ⟨tp, htp⟩ : ∃ tp, topI st.2 = tp := ⟨_, rfl⟩
  have HTP := Lib.hid htp
  rw [htp] at htn1 htn2 HRES ⊢
  have hm := hok.many
  have hd := hok.deep
  have HBD : Hid (badOpen st = if st.1 ≠ [] ∧ st.2 = [] then 6 else if st.2.length = 12 then 7 else if st.1.length = 1000 then 4 else 0) := rfl
  have hne1 : st.1 ≠ [] ↔ 0 < st.1.length := List.length_pos_iff.symm
  obtain ⟨n, hn⟩ : ∃ n, st.1.length = n := ⟨_, rfl⟩
  obtain ⟨m, hm2⟩ : ∃ m, st.2.length = m := ⟨_, rfl⟩
  have HN := Lib.hid hn
  have HM := Lib.hid hm2
  rw [hn] at c0 hm GB GN HBD HBEG hne1
  rw [hm2] at c1 hd GB HBD
  have hcases : (tp < 0 ∧ 0 < n ∧ badOpen st = 6) ∨ ((tp < 0 ∧ n = 0 ∨ 0 ≤ tp) ∧ (badOpen st = if m = 12 then 7 else if n = 1000 then 4 else 0)) := by
    by_cases hs2 : st.2 = []
    · by_cases hs1 : st.1 = []
      · refine .inr ⟨.inl ⟨htn1 hs2, ?_⟩, ?_⟩
        · rw [← hn, hs1]; rfl
        · rw [HBD.out, if_neg (fun h => h.1 hs1)]
      · exact .inl ⟨htn1 hs2, hne1.1 hs1, by rw [HBD.out, if_pos ⟨hs1, hs2⟩]⟩
    · exact .inr ⟨.inr (htn2 hs2), by rw [HBD.out, if_neg (fun h => hs2 h.2)]⟩
  clear h hok hu hG hB hT h0 h1 h2 h3 h5 hal hun hW1 hw1 G1 gb gn go gt hn hm2 hu2 hZ1 htp htn1 htn2 hne1 HBD
  rcases hcases with ⟨ht0, hn0, hbad⟩ | ⟨htn, hbad⟩
  · have g1 : decide (tp < 0) = true := decide_eq_true ht0
    have g2 : decide (0 < n) = true := decide_eq_true (by omega)
    have hb := Lib.hid hbad
    clear hbad ht0
    go_enter Tryz.func37, Tryz.ntmps37
    go_upto_region 1 with fail
    rw [HW1.out, HTT.out]
    go_wp2_with fail
    go_ret
    rw [hb.out]
    exact ⟨rfl, HGS.out, N1.out⟩
  have hgate : (decide (tp < 0) = true ∧ decide (0 < n) = false ∧ ¬ 0 < n) ∨ (decide (tp < 0) = false ∧ (0 < n ∨ ¬ 0 < n)) := by
    rcases htn with ⟨h1, h2⟩ | h1
    · exact .inl ⟨decide_eq_true h1, decide_eq_false (by omega), by omega⟩
    · exact .inr ⟨decide_eq_false (by omega), by omega⟩
  have HBAD := Lib.hid hbad
  have HTN := Lib.hid htn
  have HGT := Lib.hid hgate
  clear hbad htn hgate
  go_enter Tryz.func37, Tryz.ntmps37
  go_upto_region 1 with fail
  rw [HW1.out, HTT.out]
  go_cut [10] from 10 to 20 (fun s wx => s = .bool false ∧ wx = W1)
  case first =>
    have hgate := HGT.out
    rcases hgate with ⟨g1, g2, g2p⟩ | ⟨g1, g2p⟩
    all_goals
      go_wp2_with fail
      go_meet
      exact ⟨rfl, rfl⟩
  case rest =>
  obtain ⟨rfl, hwc⟩ := hcut
  have hwc2 := hwc.symm
  clear hwc
  subst hwc2
  by_cases h12 : m = 12
  · have hb : Hid (badOpen st = 7) := by unfold Hid; rw [HBAD.out, if_pos h12]
    have g12 : decide ((12 : Int) ≤ m) = true := decide_eq_true (by omega)
    have g12p : (12 : Int) ≤ m := by omega
    clear h12
    go_wp2_with fail
    refine bodyPost_ret (v := .int .i64 7) (by simp [results, Tryz.results37, go_sem]) rfl ?_
    rw [hb.out]
    exact ⟨rfl, HGS.out, N1.out⟩
  have HBAD2 : Hid (badOpen st = if n = 1000 then 4 else 0) := by unfold Hid; rw [HBAD.out, if_neg h12]
  have g12 : decide ((12 : Int) ≤ m) = false := decide_eq_false (by omega)
  have g12p : ¬ (12 : Int) ≤ m := by omega
  clear HBAD h12
  by_cases h1000 : n = 1000
  · have hb : Hid (badOpen st = 4) := by unfold Hid; rw [HBAD2.out, if_pos h1000]
    have g1000 : decide ((1000 : Int) ≤ n) = true := decide_eq_true (by omega)
    have g1000p : (1000 : Int) ≤ n := by omega
    clear h1000
    go_wp2_with fail
    refine bodyPost_ret (v := .int .i64 4) (by simp [results, Tryz.results37, go_sem]) rfl ?_
    rw [hb.out]
    exact ⟨rfl, HGS.out, N1.out⟩
  have HBZ : Hid (badOpen st = 0) := by unfold Hid; rw [HBAD2.out, if_neg h1000]
  have g1000 : decide ((1000 : Int) ≤ n) = false := decide_eq_false (by omega)
  have g1000p : ¬ (1000 : Int) ≤ n := by omega
  clear HBAD2 h1000
  -- the node is made
  obtain ⟨X, hX⟩ : ∃ X, T + 1 = X := ⟨_, rfl⟩
  obtain ⟨W2, hW2⟩ : ∃ W2, W1.alloc (.cells #[.int .i64 tp, .int .i64 a1, .string a2, .string ⟨#[]⟩, .slice none 0 0, .string ⟨#[]⟩] 34) = W2 := ⟨_, rfl⟩
  have hw2 : Below W1.heap.size W1 W2 := by rw [← hW2]; exact (Below.refl _ _).alloc (Nat.le_refl _) _
  have KX : Hid (Bk W2 X 34 #[.int .i64 tp, .int .i64 a1, .string a2, .string ⟨#[]⟩, .slice none 0 0, .string ⟨#[]⟩]) := by rw [← hW2, ← hX, ← HZ1.out]; exact Bk.new _ _ _
  have KT2 := Lib.hid (KT.out.below hw2 KT.out.lt)
  have B2 : Hid (Below T w W2) := by
    have : Below T w W1 := by rw [← HW1.out, ← HTT.out]; exact (Below.refl _ _).alloc (Nat.le_refl _) _
    exact this.trans (hw2.mono (by rw [HZ1.out]; omega))
  have X2 : Hid (X + 1 ≤ W2.heap.size) := by unfold Hid; rw [← hW2, World.size_alloc, HZ1.out]; omega
  have HTX : Hid (T < X) := by unfold Hid; omega
  have HW2 := Lib.hid hW2
  have HXE : Hid (W1.heap.size = X) := by unfold Hid; rw [HZ1.out]; exact hX
  have GN2 := Lib.hid (GN.out.below hw2)
  have GB2 := Lib.hid (GB.out.below hw2 GB.out.lt)
  obtain ⟨sp0, hsp0⟩ : ∃ sp0, innerSpace st = sp0 := ⟨_, rfl⟩
  have HSP0 := Lib.hid hsp0
  clear hX hW2 hw2 hsp0
  have t1 : W1.cell? ⟨T, 1, none⟩ = some (.int .i64 a1) := KT.out.cell 1
  have t2 : W1.cell? ⟨T, 2, none⟩ = some (.string a2) := KT.out.cell 2
  go_upto_region 8 with fail
  rw [HW2.out, HXE.out]
  clear t1 t2 c0 c1 g12 g12p g1000 g1000p
  go_upto_if 42 with fail
  go_cut [43] from 41 to 51 (fun s wx => ∃ sq, Hid (bts sp0 = sq) ∧ Hid (Bk wx X 34 #[.int .i64 tp, .int .i64 a1, .string a2, .string sq, .slice none 0 0, .string ⟨#[]⟩]) ∧ Hid (Bk wx T 45 #[.int .i64 a0, .int .i64 a1, .string a2, .string a3, .slice UA un ucap, .bool a5]) ∧ Hid (Below T w wx) ∧ Hid (X + 1 ≤ wx.heap.size))
  case first =>
    by_cases hneg : tp < 0
    · have hsq : bts sp0 = ⟨#[]⟩ := by
        rw [← HSP0.out]
        unfold innerSpace
        rw [← HTP.out] at hneg
        cases ho : st.2.getLast? with
        | none => rfl
        | some p =>
          unfold topI at hneg
          rw [ho] at hneg
          simp only at hneg
          omega
      have hge : decide (0 ≤ tp) = false := decide_eq_false (by omega)
      have hgep : ¬ 0 ≤ tp := by omega
      have HSQ := Lib.hid hsq
      clear hsq hneg
      go_wp2_with fail
      go_meet
      exact ⟨_, HSQ, KX, KT2, B2, X2⟩
    · have hpos : 0 ≤ tp := by omega
      have hop : ∃ p, st.2.getLast? = some p := by
        cases ho : st.2.getLast? with
        | none =>
          rw [← HTP.out] at hpos
          unfold topI at hpos
          rw [ho] at hpos
          simp only at hpos
          omega
        | some p => exact ⟨p, rfl⟩
      obtain ⟨p, ho⟩ := hop
      have ht0 : tp = (p : Int) := by rw [← HTP.out]; unfold topI; rw [ho]
      have hpl : p < st.1.length := HOK.out.open_ p (List.mem_of_getLast? ho)
      obtain ⟨x, hx⟩ : ∃ x, st.1[p]? = some x := ⟨_, List.getElem?_eq_getElem hpl⟩
      have hs0 : sp0 = x.2.2.2.1 := by rw [← HSP0.out]; unfold innerSpace; rw [ho]; simp only; rw [hx]
      obtain ⟨g, cap', e1, hgl, hat⟩ := GN2.out.at (by rw [List.length_map]; omega)
      rw [List.length_map] at e1
      injection e1 with e1 e3 e2
      clear e3
      subst e1 e2
      obtain ⟨u9, _, _, _, _, k3, _⟩ := hat p (bare x) (by rw [List.getElem?_map, hx]; rfl)
      obtain ⟨sq, hsqe⟩ : ∃ sq, bts sp0 = sq := ⟨_, rfl⟩
      have k3' : W2.cell? ⟨g, p * 6 + 3, none⟩ = some (.string sq) := by rw [← hsqe, hs0]; exact k3
      have HSQ := Lib.hid hsqe
      have d0 : W2.cell? ⟨G, 0, none⟩ = some (.slice (some ⟨g, 0, none⟩) n cap) := GB2.out.cell 0
      have f3 : W2.frozen? ⟨X, 3, none⟩ = false := KX.out.free 3
      have x3 : W2.cell? ⟨X, 3, none⟩ = some (.string ⟨#[]⟩) := KX.out.cell 3
      rw [HN.out] at hpl
      have hpb : p < 1000 := by omega
      have hpi : (p : Int) < (n : Int) := by omega
      have hge : decide (0 ≤ tp) = true := decide_eq_true (by omega)
      clear ho hx hs0 hsqe hat hgl hneg k3 hpos
      subst ht0
      go_wp2_with fail
      go_meet
      have hTX := HTX.out
      exact ⟨_, HSQ, KX.out.t3 _, KT2.out.far (p := ⟨X, 3, none⟩) (show T ≠ X by omega) _, B2.out.setCell (show T ≤ X by omega) _, by unfold Hid; rw [World.size_setCell]; exact X2.out⟩
  case rest =>
  obtain ⟨sq, HSQ, KX6, KT6, B6, X6⟩ := hcut
  clear KX KT2 B2 X2 GN2 GB2 HGT HTN
  have N6 : Hid (B ≤ T) := by unfold Hid; rw [← HTT.out]; exact HB.out
  go_wp2_with fail
  go_loopw [8, 9] (fun sv iv wr => ∃ (k : Nat) (v : Value) (sd : Bool) (sp : ByteArray), k ≤ un ∧ sv = .bool sd ∧ iv = .int .i64 k ∧ Hid (sdK (al.take k) = sd) ∧ Hid (bts (spK st (al.take k)) = sp) ∧ Hid (OwnA (X + 1) wr v (others (al.take k))) ∧ Hid (Bk wr X 34 #[.int .i64 tp, .int .i64 a1, .string a2, .string sp, v, .string ⟨#[]⟩]) ∧ Hid (Bk wr T 45 #[.int .i64 a0, .int .i64 a1, .string a2, .string a3, .slice UA un ucap, .bool a5]) ∧ Hid (Below T w wr) ∧ Hid (X + 1 ≤ wr.heap.size)) (fun _ iv _ => un - (intOf iv).toNat)
  case atStart => exact ⟨0, _, false, sq, Nat.zero_le _, rfl, rfl, rfl, by unfold Hid; rw [← HSQ.out, ← HSP0.out]; rfl, OwnA.nil _ _, KX6, KT6, B6, X6⟩
  case round =>
    obtain ⟨k, v, sd, sp, hk, rfl, rfl, hsd, hsp, ho, hx, ht, hb, hz⟩ := hrel
    clear KX6 KT6 B6 X6
    obtain ⟨VA, vcap, hv⟩ := ho.out.slice
    subst hv
    obtain ⟨no, hno⟩ : ∃ no, (others (al.take k)).length = no := ⟨_, rfl⟩
    have HNO := Lib.hid hno
    rw [hno] at ho hx
    clear hno
    have c4 : wr.cell? ⟨T, 4, none⟩ = some (.slice UA un ucap) := ht.out.cell 4
    by_cases hlt : k < un
    · obtain ⟨ad, rfl, hlb, hc⟩ := HUC0.out (by omega)
      rw [HTT.out] at hlb
      obtain ⟨c, hcx⟩ : ∃ c, al[k]? = some c := ⟨_, List.getElem?_eq_getElem (by have := HUN.out; omega)⟩
      obtain ⟨c0, c1⟩ := hc k c hcx
      rw [← hb.out.cell (p := ad.add (k * 2)) (by rw [addBlock]; exact hlb)] at c0
      rw [← hb.out.cell (p := ⟨(ad.add (k * 2)).block, (ad.add (k * 2)).off + 1, none⟩) (by show (ad.add (k * 2)).block < _; rw [addBlock]; exact hlb)] at c1
      obtain ⟨hs1, hs2⟩ := sp_step (st := st) hcx
      have HS1 := Lib.hid hs1
      have HS2 := Lib.hid hs2
      have HOT := Lib.hid (others_take hcx)
      have hol : Hid ((others (al.take k)).length ≤ 1000000000) := by unfold Hid; have := others_len (al.take k); rw [List.length_take] at this; omega
      have heq := bts_eqb2 c.1 xmlnsL
      obtain ⟨y0, h0⟩ : ∃ a, bts c.1 = a := ⟨_, rfl⟩
      obtain ⟨y1, h1⟩ : ∃ a, bts c.2 = a := ⟨_, rfl⟩
      have hix : Hid (isX c = decide (c.1 = xmlnsL)) := rfl
      rw [h0] at c0 heq
      rw [h1] at c1
      have H0 := Lib.hid h0
      have H1 := Lib.hid h1
      obtain ⟨d, hd⟩ : ∃ d, decide (c.1 = xmlnsL) = d := ⟨_, rfl⟩
      rw [hd] at heq hix
      have hne : (y0.toList == [120, 109, 108, 110, 115]) = d := by
        rw [show ([120, 109, 108, 110, 115] : List UInt8) = (bts xmlnsL).toList by rw [ByteArray.toList_mk]; rfl]
        exact heq
      clear hc hcx h0 h1 hd heq hs1 hs2
      cases d with
      | true =>
        have hta : Hid (others (al.take (k + 1)) = others (al.take k)) := by unfold Hid; rw [HOT.out, hix.out]; simp
        cases sd with
        | true =>
          have hsp2 : Hid (bts (spK st (al.take (k + 1))) = sp) := by unfold Hid; rw [HS1.out, hix.out, hsd.out]; exact hsp.out
          have hsd2 : Hid (sdK (al.take (k + 1)) = true) := by unfold Hid; rw [HS2.out, hsd.out]; rfl
          go_wp2_with fail
          go_roundw
          case rel => exact ⟨k + 1, _, true, sp, by omega, rfl, by go_num, hsd2, hsp2, by rw [hta.out]; exact ho, hx, ht, hb, hz⟩
          case measure => simp [intOf]; omega
        | false =>
          have hsp2 : Hid (bts (spK st (al.take (k + 1))) = y1) := by unfold Hid; rw [HS1.out, hix.out, hsd.out]; exact H1.out
          have hsd2 : Hid (sdK (al.take (k + 1)) = true) := by unfold Hid; rw [HS2.out, hsd.out, hix.out]; rfl
          have f3 : wr.frozen? ⟨X, 3, none⟩ = false := hx.out.free 3
          have x3 : wr.cell? ⟨X, 3, none⟩ = some (.string sp) := hx.out.cell 3
          go_wp2_with fail
          go_roundw
          case rel => exact ⟨k + 1, _, true, y1, by omega, rfl, by go_num, hsd2, hsp2, by rw [hta.out]; exact ho.out.stored hx.out (by decide) 3 _, hx.out.t3 _, ht.out.far (p := ⟨X, 3, none⟩) (show T ≠ X by have := HTX.out; omega) _, hb.out.setCell (show T ≤ X by have := HTX.out; omega) _, by unfold Hid; rw [World.size_setCell]; exact hz.out⟩
          case measure => simp [intOf]; omega
      | false =>
        have hta : Hid (others (al.take (k + 1)) = others (al.take k) ++ [c]) := by unfold Hid; rw [HOT.out, hix.out]; simp
        have hsp2 : Hid (bts (spK st (al.take (k + 1))) = sp) := by unfold Hid; rw [HS1.out, hix.out]; exact hsp.out
        have hsd2 : Hid (sdK (al.take (k + 1)) = sd) := by unfold Hid; rw [HS2.out, hsd.out, hix.out, Bool.or_false]
        have x4 : wr.cell? ⟨X, 4, none⟩ = some (.slice VA no vcap) := hx.out.cell 4
        have x4a : ∀ o, (wr.alloc o).cell? ⟨X, 4, none⟩ = some (.slice VA no vcap) := fun o => (hx.out.alloc o).cell 4
        go_upto_region 15 with fail
        go_region_law (refine step_attr rfl _ _ rfl (X + 1) (.slice VA no vcap) (others (al.take k)) c y0 y1 H0.out H1.out wr _ _ ?_ ?_ rfl ho.out rfl hol.out hz.out ?_; (first | exact (Below.refl _ _).alloc (Nat.le_refl _) _ | exact (Below.refl _ _).drew.alloc (Nat.le_refl _) _); exact Bk.new _ _ _; intro v9 w9 o9 b9 k9; have hx9 := k9 _ _ _ hx.out (by decide); have ht9 := k9 _ _ _ ht.out (by decide); obtain ⟨VA9, vcap9, hv9⟩ := o9.slice; subst hv9; have f9 : w9.frozen? ⟨X, 4, none⟩ = false := hx9.free 4; have x9 : w9.cell? ⟨X, 4, none⟩ = some (.slice VA no vcap) := hx9.cell 4; have O9 := Lib.hid o9; have HX9 := Lib.hid hx9; have HT9 := Lib.hid ht9; have B9 := Lib.hid b9; clear o9 b9 k9 hx9 ht9)
        all_goals
          rw [List.length_append, List.length_singleton, HNO.out] at O9
          rw [HNO.out]
          have KX9 := Lib.hid (HX9.out.t4 (.slice VA9 (no + 1) vcap9))
          have KT9 : Hid (Bk (w9.setCell ⟨X, 4, none⟩ (.slice VA9 (no + 1) vcap9)) T 45 #[.int .i64 a0, .int .i64 a1, .string a2, .string a3, .slice (some ad) un ucap, .bool a5]) := HT9.out.far (p := ⟨X, 4, none⟩) (by have := HTX.out; show T ≠ X; omega) _
          have BB9 : Hid (Below T w (w9.setCell ⟨X, 4, none⟩ (.slice VA9 (no + 1) vcap9))) := (hb.out.trans (B9.out.mono (by have := HTX.out; omega))).setCell (show T ≤ X by have := HTX.out; omega) _
          have ZZ9 : Hid (X + 1 ≤ (w9.setCell ⟨X, 4, none⟩ (.slice VA9 (no + 1) vcap9)).heap.size) := by unfold Hid; rw [World.size_setCell]; have := B9.out.size; have := hz.out; omega
          have OO9 : Hid (OwnA (X + 1) (w9.setCell ⟨X, 4, none⟩ (.slice VA9 (no + 1) vcap9)) (.slice VA9 (no + 1) vcap9) (others (al.take k) ++ [c])) := O9.out.stored HX9.out (by decide) 4 _
          clear x4 x4a f9 x9
          go_wp2_with fail
          go_roundw
          case rel => exact ⟨k + 1, _, sd, sp, by omega, rfl, by go_num, hsd2, hsp2, by rw [hta.out]; exact OO9, KX9, KT9, BB9, ZZ9⟩
          case measure => simp [intOf]; omega
    · have hke : k = un := by omega
      have hal2 : Hid (al.take k = al) := by unfold Hid; rw [List.take_of_length_le (by have := HUN.out; omega)]
      have O9 : Hid (OwnA (X + 1) wr (.slice VA no vcap) (others al)) := by unfold Hid; rw [← hal2.out]; exact ho.out
      have HSPE : Hid (bts (spaceOf st al) = sp) := by unfold Hid; rw [← hsp.out, hal2.out]; rfl
      clear hsp ho hsd hal2 HNO
      have hbw : Below w.heap.size w wr := by rw [HTT.out]; exact hb.out
      obtain ⟨A2, cap2, OA2, ocap2, XA2, xcap2, gb0, gn0, go0, gt0⟩ := HGW.out.cells
      have gb := gb0.below hbw gb0.lt
      have gn := gn0.below hbw
      have go := go0.below hbw
      have gt := gt0.keep (.below hbw)
      have HAX : Hid ((Value.slice A2 n cap2).ownBlock ≠ some X) := by
        intro e
        rw [← HN.out] at e
        obtain ⟨ks, _, h2, _⟩ := gn0
        have := (World.ownsRow.lt h2 X e).2
        rw [HTT.out] at this
        have := HTX.out
        omega
      clear gb0 gn0 go0 gt0 hbw
      have GBR := Lib.hid gb
      have GNR := Lib.hid gn
      have GOR := Lib.hid go
      have GTR := Lib.hid gt
      have RA := Lib.hid O9.out.row
      have NR : Hid (Tn G B w wr) := Tn.of (hb.out.mono N6.out)
      have ZR : Hid (B ≤ wr.heap.size) := by have := hz.out; have := N6.out; have := HTX.out; unfold Hid; omega
      obtain ⟨xx, hxx⟩ : ∃ xx : Nd, (tp, a1, t.2.2.1, spaceOf st al, others al, []) = xx := ⟨_, rfl⟩
      have X0 : Hid (xx.1 = tp) := by rw [← hxx]; exact rfl
      have X1 : Hid (xx.2.1 = a1) := by rw [← hxx]; exact rfl
      have X2' : Hid (bts xx.2.2.1 = a2) := by rw [← hxx]; exact HA2.out
      have X3 : Hid (bts xx.2.2.2.1 = sp) := by rw [← hxx]; exact HSPE.out
      have X5 : Hid (bts xx.2.2.2.2.2 = ⟨#[]⟩) := by rw [← hxx]; exact rfl
      have XA : Hid (RowA wr (.slice VA no vcap) xx.2.2.2.2.1) := by rw [← hxx]; exact RA.out
      have XB : Hid (bare xx = xx) := by rw [← hxx]; exact rfl
      have XT : Hid (txt xx = []) := by rw [← hxx]; exact rfl
      have XN : Hid (nodeOf st t = xx) := by unfold Hid; rw [HRES.out]; exact hxx
      have LN : Hid ((st.1.map bare).length ≤ 1000000000) := by unfold Hid; rw [List.length_map, HN.out]; omega
      have LT : Hid ((st.1.map txt).length ≤ 1000000000) := by unfold Hid; rw [List.length_map, HN.out]; omega
      rw [HN.out] at GBR GNR GTR
      rw [HM.out] at GBR GOR
      clear gb gn go gt hxx hke
      go_upto_region 18 with fail
      go_cut [85] from 85 to 103 (fun s wx => s = .pointer (some ⟨G, 0, none⟩) ∧ Hid (RS B G wx (st.1 ++ [xx], st.2)) ∧ Hid (Bk wx T 45 #[.int .i64 a0, .int .i64 a1, .string a2, .string a3, .slice UA un ucap, .bool a5]) ∧ Hid (Tn G B w wx) ∧ Hid (B ≤ wx.heap.size))
      case first =>
        have M0w : Grow B G X T wr (.slice A2 n cap2) (.slice OA2 m ocap2) (.slice XA2 n xcap2) (.slice VA no vcap) #[.int .i64 tp, .int .i64 a1, .string a2, .string sp, .slice VA no vcap, .string ⟨#[]⟩] #[.int .i64 a0, .int .i64 a1, .string a2, .string a3, .slice UA un ucap, .bool a5] xx.2.2.2.2.1 st.2 (.slice A2 n cap2) (st.1.map bare) (.slice XA2 n xcap2) (st.1.map txt) wr := ⟨GBR.out, hx.out, ht.out, GNR.out, GTR.out, GOR.out, XA.out, Below.refl _ _, ZR.out⟩
        obtain ⟨W0, hW0⟩ : ∃ W0, wr.drew = W0 := ⟨_, rfl⟩
        have M0 : Hid (Grow B G X T wr (.slice A2 n cap2) (.slice OA2 m ocap2) (.slice XA2 n xcap2) (.slice VA no vcap) #[.int .i64 tp, .int .i64 a1, .string a2, .string sp, .slice VA no vcap, .string ⟨#[]⟩] #[.int .i64 a0, .int .i64 a1, .string a2, .string a3, .slice UA un ucap, .bool a5] xx.2.2.2.2.1 st.2 (.slice A2 n cap2) (st.1.map bare) (.slice XA2 n xcap2) (st.1.map txt) W0) := by rw [← hW0]; exact M0w.below (Below.refl _ _).drew
        have HSof : Hid (∀ nv nl tv tl W, Grow B G X T wr (.slice A2 n cap2) (.slice OA2 m ocap2) (.slice XA2 n xcap2) (.slice VA no vcap) #[.int .i64 tp, .int .i64 a1, .string a2, .string sp, .slice VA no vcap, .string ⟨#[]⟩] #[.int .i64 a0, .int .i64 a1, .string a2, .string a3, .slice UA un ucap, .bool a5] xx.2.2.2.2.1 st.2 nv nl tv tl W → (fun w' => w'.cell? ⟨X, 0, none⟩ = some (.int .i64 tp) ∧ w'.cell? ⟨X, 1, none⟩ = some (.int .i64 a1) ∧ w'.cell? ⟨X, 2, none⟩ = some (.string a2) ∧ w'.cell? ⟨X, 3, none⟩ = some (.string sp) ∧ w'.cell? ⟨X, 4, none⟩ = some (.slice VA no vcap) ∧ w'.cell? ⟨X, 5, none⟩ = some (.string ⟨#[]⟩) ∧ w'.cell? ⟨G, 0, none⟩ = some (.slice A2 n cap2) ∧ w'.cell? ⟨G, 2, none⟩ = some (.slice XA2 n xcap2)) W) := fun nv nl tv tl W h => ⟨h.x.cell 0, h.x.cell 1, h.x.cell 2, h.x.cell 3, h.x.cell 4, h.x.cell 5, h.g.cell 0, h.g.cell 2⟩
        have hm1 : (st.1 ++ [xx]).map bare = st.1.map bare ++ [xx] := by rw [List.map_append, List.map_singleton, XB.out]
        have hm2 : (st.1 ++ [xx]).map txt = st.1.map txt ++ [[]] := by rw [List.map_append, List.map_singleton, XT.out]
        have HM1 := Lib.hid hm1
        have HM2 := Lib.hid hm2
        have HW0 := Lib.hid hW0
        clear M0w hW0 hm1 hm2 c4
        refine any_region (fun w' => w'.cell? ⟨X, 0, none⟩ = some (.int .i64 tp) ∧ w'.cell? ⟨X, 1, none⟩ = some (.int .i64 a1) ∧ w'.cell? ⟨X, 2, none⟩ = some (.string a2) ∧ w'.cell? ⟨X, 3, none⟩ = some (.string sp) ∧ w'.cell? ⟨X, 4, none⟩ = some (.slice VA no vcap) ∧ w'.cell? ⟨X, 5, none⟩ = some (.string ⟨#[]⟩) ∧ w'.cell? ⟨G, 0, none⟩ = some (.slice A2 n cap2) ∧ w'.cell? ⟨G, 2, none⟩ = some (.slice XA2 n xcap2)) 17 (by kernel_rfl) ?_
        rw [HW0.out]
        refine Any.take 0 (some 85) ?v1 [] (S' := fun _ => True) rfl rfl (by kernel_rfl) (by kernel_rfl) (by kernel_rfl) (by kernel_rfl) (by kernel_rfl) (by decide) (by rfl) (fun _ _ _ _ => trivial) ?y1 (fun _ _ _ h => h) (fun _ => HSof.out _ _ _ _ _ M0.out) ?n1
        case y1 =>
          intro w hSw
          clear hSw
          go_simp
          try with_reducible rfl
        try simp only [Act.put, List.setIfInBounds_toArray, List.set_cons_zero, List.set_cons_succ]
        refine Any.take 1 (some 86) ?v2 [] (S' := fun _ => True) rfl rfl (by kernel_rfl) (by kernel_rfl) (by kernel_rfl) (by kernel_rfl) (by kernel_rfl) (by decide) (by rfl) (fun _ _ _ _ => trivial) ?y2 (fun _ _ _ h => h) (fun _ => HSof.out _ _ _ _ _ M0.out) ?n2
        case y2 =>
          intro w hSw
          clear hSw
          go_simp
          try with_reducible rfl
        try simp only [Act.put, List.setIfInBounds_toArray, List.set_cons_zero, List.set_cons_succ]
        refine Any.take 2 (some 87) ?v3 [] (S' := fun _ => True) rfl rfl (by kernel_rfl) (by kernel_rfl) (by kernel_rfl) (by kernel_rfl) (by kernel_rfl) (by decide) (by rfl) (fun _ _ _ _ => trivial) ?y3 (fun _ _ _ h => h) (fun _ => HSof.out _ _ _ _ _ M0.out) ?n3
        case y3 =>
          intro w hSw
          clear hSw
          go_simp
          try with_reducible rfl
        try simp only [Act.put, List.setIfInBounds_toArray, List.set_cons_zero, List.set_cons_succ]
        refine Any.take 3 (some 88) ?v4 [] (S' := fun _ => True) rfl rfl (by kernel_rfl) (by kernel_rfl) (by kernel_rfl) (by kernel_rfl) (by kernel_rfl) (by decide) (by rfl) (fun _ _ _ _ => trivial) ?y4 (fun _ _ _ h => h) (fun _ => HSof.out _ _ _ _ _ M0.out) ?n4
        case y4 =>
          intro w hSw
          clear hSw
          go_simp
          try with_reducible rfl
        try simp only [Act.put, List.setIfInBounds_toArray, List.set_cons_zero, List.set_cons_succ]
        refine Any.take 4 (some 89) ?v5 [] (S' := fun _ => True) rfl rfl (by kernel_rfl) (by kernel_rfl) (by kernel_rfl) (by kernel_rfl) (by kernel_rfl) (by decide) (by rfl) (fun _ _ _ _ => trivial) ?y5 (fun _ _ _ h => h) (fun _ => HSof.out _ _ _ _ _ M0.out) ?n5
        case y5 =>
          intro w hSw
          clear hSw
          go_simp
          try with_reducible rfl
        try simp only [Act.put, List.setIfInBounds_toArray, List.set_cons_zero, List.set_cons_succ]
        refine Any.take 5 (some 90) ?v6 [17] (S' := fun w' => w'.cell? ⟨X, 0, none⟩ = some (.int .i64 tp) ∧ w'.cell? ⟨X, 1, none⟩ = some (.int .i64 a1) ∧ w'.cell? ⟨X, 2, none⟩ = some (.string a2) ∧ w'.cell? ⟨X, 3, none⟩ = some (.string sp) ∧ w'.cell? ⟨X, 4, none⟩ = some (.slice VA no vcap) ∧ w'.cell? ⟨X, 5, none⟩ = some (.string ⟨#[]⟩) ∧ w'.cell? ⟨G, 0, none⟩ = some (.slice A2 n cap2) ∧ w'.cell? ⟨G, 2, none⟩ = some (.slice XA2 n xcap2)) rfl rfl (by kernel_rfl) (by kernel_rfl) (by kernel_rfl) (by kernel_rfl) (by kernel_rfl) (by decide) (by rfl) (fun _ _ hl hS => hS (hl 17 (by simp))) ?y6 (fun _ _ _ h => h) (fun _ => HSof.out _ _ _ _ _ M0.out) ?n6
        case y6 =>
          intro w hSw
          try dsimp only at hSw
          obtain ⟨s0, s1, s2, s3, s4, s5, s6, s7⟩ := hSw
          go_simp
          try with_reducible rfl
        try simp only [Act.put, List.setIfInBounds_toArray, List.set_cons_zero, List.set_cons_succ]
        refine Any.take 6 (some 91) ?v7 [17] (S' := fun w' => w'.cell? ⟨X, 0, none⟩ = some (.int .i64 tp) ∧ w'.cell? ⟨X, 1, none⟩ = some (.int .i64 a1) ∧ w'.cell? ⟨X, 2, none⟩ = some (.string a2) ∧ w'.cell? ⟨X, 3, none⟩ = some (.string sp) ∧ w'.cell? ⟨X, 4, none⟩ = some (.slice VA no vcap) ∧ w'.cell? ⟨X, 5, none⟩ = some (.string ⟨#[]⟩) ∧ w'.cell? ⟨G, 0, none⟩ = some (.slice A2 n cap2) ∧ w'.cell? ⟨G, 2, none⟩ = some (.slice XA2 n xcap2)) rfl rfl (by kernel_rfl) (by kernel_rfl) (by kernel_rfl) (by kernel_rfl) (by kernel_rfl) (by decide) (by rfl) (fun _ _ hl hS => hS (hl 17 (by simp))) ?y7 (fun _ _ _ h => h) (fun _ => HSof.out _ _ _ _ _ M0.out) ?n7
        case y7 =>
          intro w hSw
          try dsimp only at hSw
          obtain ⟨s0, s1, s2, s3, s4, s5, s6, s7⟩ := hSw
          go_simp
          try with_reducible rfl
        try simp only [Act.put, List.setIfInBounds_toArray, List.set_cons_zero, List.set_cons_succ]
        refine Any.take 9 (some 94) ?v8 [] (S' := fun _ => True) rfl rfl (by kernel_rfl) (by kernel_rfl) (by kernel_rfl) (by kernel_rfl) (by kernel_rfl) (by decide) (by rfl) (fun _ _ _ _ => trivial) ?y8 (fun _ _ _ h => h) (fun _ => HSof.out _ _ _ _ _ M0.out) ?n8
        case y8 =>
          intro w hSw
          clear hSw
          go_simp
          try with_reducible rfl
        try simp only [Act.put, List.setIfInBounds_toArray, List.set_cons_zero, List.set_cons_succ]
        refine Any.take 10 (some 95) ?v9 [] (S' := fun _ => True) rfl rfl (by kernel_rfl) (by kernel_rfl) (by kernel_rfl) (by kernel_rfl) (by kernel_rfl) (by decide) (by rfl) (fun _ _ _ _ => trivial) ?y9 (fun _ _ _ h => h) (fun _ => HSof.out _ _ _ _ _ M0.out) ?n9
        case y9 =>
          intro w hSw
          clear hSw
          go_simp
          try with_reducible rfl
        try simp only [Act.put, List.setIfInBounds_toArray, List.set_cons_zero, List.set_cons_succ]
        refine Any.take 11 (some 96) ?v10 [] (S' := fun _ => True) rfl rfl (by kernel_rfl) (by kernel_rfl) (by kernel_rfl) (by kernel_rfl) (by kernel_rfl) (by decide) (by rfl) (fun _ _ _ _ => trivial) ?y10 (fun _ _ _ h => h) (fun _ => HSof.out _ _ _ _ _ M0.out) ?n10
        case y10 =>
          intro w hSw
          clear hSw
          go_simp
          try with_reducible rfl
        try simp only [Act.put, List.setIfInBounds_toArray, List.set_cons_zero, List.set_cons_succ]
        refine Any.take 12 (some 97) ?v11 [17] (S' := fun w' => w'.cell? ⟨X, 0, none⟩ = some (.int .i64 tp) ∧ w'.cell? ⟨X, 1, none⟩ = some (.int .i64 a1) ∧ w'.cell? ⟨X, 2, none⟩ = some (.string a2) ∧ w'.cell? ⟨X, 3, none⟩ = some (.string sp) ∧ w'.cell? ⟨X, 4, none⟩ = some (.slice VA no vcap) ∧ w'.cell? ⟨X, 5, none⟩ = some (.string ⟨#[]⟩) ∧ w'.cell? ⟨G, 0, none⟩ = some (.slice A2 n cap2) ∧ w'.cell? ⟨G, 2, none⟩ = some (.slice XA2 n xcap2)) rfl rfl (by kernel_rfl) (by kernel_rfl) (by kernel_rfl) (by kernel_rfl) (by kernel_rfl) (by decide) (by rfl) (fun _ _ hl hS => hS (hl 17 (by simp))) ?y11 (fun _ _ _ h => h) (fun _ => HSof.out _ _ _ _ _ M0.out) ?n11
        case y11 =>
          intro w hSw
          try dsimp only at hSw
          obtain ⟨s0, s1, s2, s3, s4, s5, s6, s7⟩ := hSw
          go_simp
          try with_reducible rfl
        try simp only [Act.put, List.setIfInBounds_toArray, List.set_cons_zero, List.set_cons_succ]
        refine Any.up (rs := [7, 13]) (by kernel_rfl) (by simp) ?_
        refine AllUp.cons (i := 7) rfl (fun K hK => ?_) (AllUp.cons (i := 13) rfl (fun K hK => ?_) (AllUp.nil))
        · obtain ⟨W7, hW7⟩ : ∃ W9, W0.alloc (.cells #[.int .i64 tp, .int .i64 a1, .string a2, .string sp, .slice VA no vcap, .string ⟨#[]⟩] 34) = W9 := ⟨_, rfl⟩
          obtain ⟨H7, hH7⟩ : ∃ H9, W0.heap.size = H9 := ⟨_, rfl⟩
          have M7 : Hid (Grow B G X T wr (.slice A2 n cap2) (.slice OA2 m ocap2) (.slice XA2 n xcap2) (.slice VA no vcap) #[.int .i64 tp, .int .i64 a1, .string a2, .string sp, .slice VA no vcap, .string ⟨#[]⟩] #[.int .i64 a0, .int .i64 a1, .string a2, .string a3, .slice UA un ucap, .bool a5] xx.2.2.2.2.1 st.2 (.slice A2 n cap2) (st.1.map bare) (.slice XA2 n xcap2) (st.1.map txt) W7) := by rw [← hW7]; exact M0.out.below ((Below.refl _ _).alloc (Nat.le_refl _) _)
          have N7 : Hid (Bk W7 H7 34 #[.int .i64 tp, .int .i64 a1, .string a2, .string sp, .slice VA no vcap, .string ⟨#[]⟩]) := by rw [← hW7, ← hH7]; exact Bk.new _ _ _
          have HW7 := Lib.hid hW7
          have HH7 := Lib.hid hH7
          clear hW7 hH7
          go_simp
          rw [HW7.out, HH7.out]
          refine hK.out _ _ (fun _ _ => HSof.out _ _ _ _ _ M7.out) ?_
          clear hK K
          try simp only [Act.put, List.setIfInBounds_toArray, List.set_cons_zero, List.set_cons_succ]
          refine Any.up (rs := [8, 13]) (by kernel_rfl) (by simp) ?_
          refine AllUp.cons (i := 8) rfl (fun K hK => ?_) (AllUp.cons (i := 13) rfl (fun K hK => ?_) (AllUp.nil))
          · refine grow_node rfl _ _ rfl xx M7.out tp a1 a2 sp ⟨#[]⟩ X0.out X1.out X2'.out X3.out X5.out N7.out rfl rfl LN.out HAX.out ?_
            intro v8 W8 m8 k8
            have M8 := Lib.hid m8
            obtain ⟨A8, c8, hv8⟩ := m8.n.slice
            rw [List.length_append, List.length_map, List.length_singleton, HN.out] at hv8
            subst hv8
            clear m8 k8
            refine hK.out _ _ (fun _ _ => HSof.out _ _ _ _ _ M8.out) ?_
            clear hK K
            try simp only [Act.put, List.setIfInBounds_toArray, List.set_cons_zero, List.set_cons_succ]
            refine Any.up (rs := [13]) (by kernel_rfl) (by simp) ?_
            refine AllUp.cons (i := 13) rfl (fun K hK => ?_) (AllUp.nil)
            obtain ⟨W13, hW13⟩ : ∃ W9, W8.alloc (.cells #[.string ⟨#[]⟩] 9) = W9 := ⟨_, rfl⟩
            obtain ⟨H13, hH13⟩ : ∃ H9, W8.heap.size = H9 := ⟨_, rfl⟩
            have M13 : Hid (Grow B G X T wr (.slice A2 n cap2) (.slice OA2 m ocap2) (.slice XA2 n xcap2) (.slice VA no vcap) #[.int .i64 tp, .int .i64 a1, .string a2, .string sp, .slice VA no vcap, .string ⟨#[]⟩] #[.int .i64 a0, .int .i64 a1, .string a2, .string a3, .slice UA un ucap, .bool a5] xx.2.2.2.2.1 st.2 (.slice A8 (n + 1) c8) (st.1.map bare ++ [xx]) (.slice XA2 n xcap2) (st.1.map txt) W13) := by rw [← hW13]; exact M8.out.below ((Below.refl _ _).alloc (Nat.le_refl _) _)
            have N13 : Hid (Bk W13 H13 9 #[.string ⟨#[]⟩]) := by rw [← hW13, ← hH13]; exact Bk.new _ _ _
            have HW13 := Lib.hid hW13
            have HH13 := Lib.hid hH13
            clear hW13 hH13
            go_simp
            rw [HW13.out, HH13.out]
            refine hK.out _ _ (fun _ _ => HSof.out _ _ _ _ _ M13.out) ?_
            clear hK K
            try simp only [Act.put, List.setIfInBounds_toArray, List.set_cons_zero, List.set_cons_succ]
            refine Any.up (rs := [14]) (by kernel_rfl) (by simp) ?_
            refine AllUp.cons (i := 14) rfl (fun K hK => ?_) (AllUp.nil)
            refine grow_text rfl _ _ rfl M13.out [] ⟨#[]⟩ rfl N13.out rfl rfl LT.out ?_
            intro v14 W14 m14
            have M14 := Lib.hid m14
            obtain ⟨A14, c14, hv14⟩ := m14.s.slice
            rw [List.length_append, List.length_map, List.length_singleton, HN.out] at hv14
            subst hv14
            clear m14
            refine hK.out _ _ (fun _ _ => HSof.out _ _ _ _ _ M14.out) ?_
            clear hK K
            try simp only [Act.put, List.setIfInBounds_toArray, List.set_cons_zero, List.set_cons_succ]
            refine Any.up (rs := [15]) (by kernel_rfl) (by simp) ?_
            refine AllUp.cons (i := 15) rfl (fun K hK => ?_) (AllUp.nil)
            go_simp
            refine hK.out _ _ (fun _ _ => HSof.out _ _ _ _ _ M14.out) ?_
            clear hK K
            try simp only [Act.put, List.setIfInBounds_toArray, List.set_cons_zero, List.set_cons_succ]
            refine Any.up (rs := [16]) (by kernel_rfl) (by simp) ?_
            refine AllUp.cons (i := 16) rfl (fun K hK => ?_) (AllUp.nil)
            go_simp
            refine hK.out _ _ (fun _ _ => HSof.out _ _ _ _ _ M14.out) ?_
            clear hK K
            try simp only [Act.put, List.setIfInBounds_toArray, List.set_cons_zero, List.set_cons_succ]
            refine Any.up (rs := [17]) (by kernel_rfl) (by simp) ?_
            refine AllUp.cons (i := 17) rfl (fun K hK => ?_) (AllUp.nil)
            have y0 := M14.out.g.cell 0
            have y1 := M14.out.g.free 0
            go_simp
            refine hK.out _ _ (fun hne _ => absurd rfl hne) ?_
            clear hK K y0 y1
            try simp only [Act.put, List.setIfInBounds_toArray, List.set_cons_zero, List.set_cons_succ]
            have g17 : Hid (Bk (W14.setCell ⟨G, 0, none⟩ (.slice A8 (n + 1) c8)) G 57 #[(.slice A8 (n + 1) c8), .slice OA2 m ocap2, .slice XA2 n xcap2]) := by unfold Hid; simpa using Bk.put M14.out.g 0 (.slice A8 (n + 1) c8)
            refine Any.up (rs := [18]) (by kernel_rfl) (by simp) ?_
            refine AllUp.cons (i := 18) rfl (fun K hK => ?_) (AllUp.nil)
            go_simp
            refine hK.out _ _ (fun _ hv => no_more (by kernel_rfl) hv) ?_
            clear hK K
            try simp only [Act.put, List.setIfInBounds_toArray, List.set_cons_zero, List.set_cons_succ]
            refine Any.up (rs := [19]) (by kernel_rfl) (by simp) ?_
            refine AllUp.cons (i := 19) rfl (fun K hK => ?_) (AllUp.nil)
            go_simp
            refine hK.out _ _ (fun _ hv => no_more (by kernel_rfl) hv) ?_
            clear hK K
            try simp only [Act.put, List.setIfInBounds_toArray, List.set_cons_zero, List.set_cons_succ]
            refine Any.up (rs := [20]) (by kernel_rfl) (by simp) ?_
            refine AllUp.cons (i := 20) rfl (fun K hK => ?_) (AllUp.nil)
            have y0 := g17.out.cell 2
            have y1 := g17.out.free 2
            go_simp
            refine hK.out _ _ (fun _ hv => no_more (by kernel_rfl) hv) ?_
            clear hK K y0 y1
            try simp only [Act.put, List.setIfInBounds_toArray, List.set_cons_zero, List.set_cons_succ]
            refine Any.done (by kernel_rfl) ?_ _
            try go_wp2_with fail
            go_meet
            as_aux_lemma =>
            have hTG : T ≠ G := Bk.type_ne M14.out.t M14.out.g (by decide)
            refine ⟨rfl, RS.of_puts (st := (st.1 ++ [xx], st.2)) M14.out.g (by rw [HM1.out]; exact M14.out.n) M14.out.o (by rw [HM2.out]; exact M14.out.s), (M14.out.t.far (p := ⟨G, 0, none⟩) hTG _).far (p := ⟨G, 2, none⟩) hTG _, ((NR.out.trans (Tn.of M14.out.b)).set 0 _).set 2 _, ?_⟩
            unfold Hid
            rw [World.size_setCell, World.size_setCell]
            exact M14.out.z
          · obtain ⟨W13, hW13⟩ : ∃ W9, W7.alloc (.cells #[.string ⟨#[]⟩] 9) = W9 := ⟨_, rfl⟩
            obtain ⟨H13, hH13⟩ : ∃ H9, W7.heap.size = H9 := ⟨_, rfl⟩
            have M13 : Hid (Grow B G X T wr (.slice A2 n cap2) (.slice OA2 m ocap2) (.slice XA2 n xcap2) (.slice VA no vcap) #[.int .i64 tp, .int .i64 a1, .string a2, .string sp, .slice VA no vcap, .string ⟨#[]⟩] #[.int .i64 a0, .int .i64 a1, .string a2, .string a3, .slice UA un ucap, .bool a5] xx.2.2.2.2.1 st.2 (.slice A2 n cap2) (st.1.map bare) (.slice XA2 n xcap2) (st.1.map txt) W13) := by rw [← hW13]; exact M7.out.below ((Below.refl _ _).alloc (Nat.le_refl _) _)
            have N13 : Hid (Bk W13 H13 9 #[.string ⟨#[]⟩]) := by rw [← hW13, ← hH13]; exact Bk.new _ _ _
            have HW13 := Lib.hid hW13
            have HH13 := Lib.hid hH13
            have N7_13 : Hid (Bk W13 H7 34 #[.int .i64 tp, .int .i64 a1, .string a2, .string sp, .slice VA no vcap, .string ⟨#[]⟩]) := by unfold Hid; rw [← hW13]; exact N7.out.alloc _
            clear hW13 hH13
            go_simp
            rw [HW13.out, HH13.out]
            refine hK.out _ _ (fun _ _ => HSof.out _ _ _ _ _ M13.out) ?_
            clear hK K
            try simp only [Act.put, List.setIfInBounds_toArray, List.set_cons_zero, List.set_cons_succ]
            refine Any.up (rs := [8]) (by kernel_rfl) (by simp) ?_
            refine AllUp.cons (i := 8) rfl (fun K hK => ?_) (AllUp.nil)
            refine grow_node rfl _ _ rfl xx M13.out tp a1 a2 sp ⟨#[]⟩ X0.out X1.out X2'.out X3.out X5.out N7_13.out rfl rfl LN.out HAX.out ?_
            intro v8 W8 m8 k8
            have M8 := Lib.hid m8
            have N13_8 := Lib.hid (k8 _ _ _ N13.out (by decide))
            obtain ⟨A8, c8, hv8⟩ := m8.n.slice
            rw [List.length_append, List.length_map, List.length_singleton, HN.out] at hv8
            subst hv8
            clear m8 k8
            refine hK.out _ _ (fun _ _ => HSof.out _ _ _ _ _ M8.out) ?_
            clear hK K
            try simp only [Act.put, List.setIfInBounds_toArray, List.set_cons_zero, List.set_cons_succ]
            refine Any.up (rs := [14]) (by kernel_rfl) (by simp) ?_
            refine AllUp.cons (i := 14) rfl (fun K hK => ?_) (AllUp.nil)
            refine grow_text rfl _ _ rfl M8.out [] ⟨#[]⟩ rfl N13_8.out rfl rfl LT.out ?_
            intro v14 W14 m14
            have M14 := Lib.hid m14
            obtain ⟨A14, c14, hv14⟩ := m14.s.slice
            rw [List.length_append, List.length_map, List.length_singleton, HN.out] at hv14
            subst hv14
            clear m14
            refine hK.out _ _ (fun _ _ => HSof.out _ _ _ _ _ M14.out) ?_
            clear hK K
            try simp only [Act.put, List.setIfInBounds_toArray, List.set_cons_zero, List.set_cons_succ]
            refine Any.up (rs := [15]) (by kernel_rfl) (by simp) ?_
            refine AllUp.cons (i := 15) rfl (fun K hK => ?_) (AllUp.nil)
            go_simp
            refine hK.out _ _ (fun _ _ => HSof.out _ _ _ _ _ M14.out) ?_
            clear hK K
            try simp only [Act.put, List.setIfInBounds_toArray, List.set_cons_zero, List.set_cons_succ]
            refine Any.up (rs := [16]) (by kernel_rfl) (by simp) ?_
            refine AllUp.cons (i := 16) rfl (fun K hK => ?_) (AllUp.nil)
            go_simp
            refine hK.out _ _ (fun _ _ => HSof.out _ _ _ _ _ M14.out) ?_
            clear hK K
            try simp only [Act.put, List.setIfInBounds_toArray, List.set_cons_zero, List.set_cons_succ]
            refine Any.up (rs := [17]) (by kernel_rfl) (by simp) ?_
            refine AllUp.cons (i := 17) rfl (fun K hK => ?_) (AllUp.nil)
            have y0 := M14.out.g.cell 0
            have y1 := M14.out.g.free 0
            go_simp
            refine hK.out _ _ (fun hne _ => absurd rfl hne) ?_
            clear hK K y0 y1
            try simp only [Act.put, List.setIfInBounds_toArray, List.set_cons_zero, List.set_cons_succ]
            have g17 : Hid (Bk (W14.setCell ⟨G, 0, none⟩ (.slice A8 (n + 1) c8)) G 57 #[(.slice A8 (n + 1) c8), .slice OA2 m ocap2, .slice XA2 n xcap2]) := by unfold Hid; simpa using Bk.put M14.out.g 0 (.slice A8 (n + 1) c8)
            refine Any.up (rs := [18]) (by kernel_rfl) (by simp) ?_
            refine AllUp.cons (i := 18) rfl (fun K hK => ?_) (AllUp.nil)
            go_simp
            refine hK.out _ _ (fun _ hv => no_more (by kernel_rfl) hv) ?_
            clear hK K
            try simp only [Act.put, List.setIfInBounds_toArray, List.set_cons_zero, List.set_cons_succ]
            refine Any.up (rs := [19]) (by kernel_rfl) (by simp) ?_
            refine AllUp.cons (i := 19) rfl (fun K hK => ?_) (AllUp.nil)
            go_simp
            refine hK.out _ _ (fun _ hv => no_more (by kernel_rfl) hv) ?_
            clear hK K
            try simp only [Act.put, List.setIfInBounds_toArray, List.set_cons_zero, List.set_cons_succ]
            refine Any.up (rs := [20]) (by kernel_rfl) (by simp) ?_
            refine AllUp.cons (i := 20) rfl (fun K hK => ?_) (AllUp.nil)
            have y0 := g17.out.cell 2
            have y1 := g17.out.free 2
            go_simp
            refine hK.out _ _ (fun _ hv => no_more (by kernel_rfl) hv) ?_
            clear hK K y0 y1
            try simp only [Act.put, List.setIfInBounds_toArray, List.set_cons_zero, List.set_cons_succ]
            refine Any.done (by kernel_rfl) ?_ _
            try go_wp2_with fail
            go_meet
            as_aux_lemma =>
            have hTG : T ≠ G := Bk.type_ne M14.out.t M14.out.g (by decide)
            refine ⟨rfl, RS.of_puts (st := (st.1 ++ [xx], st.2)) M14.out.g (by rw [HM1.out]; exact M14.out.n) M14.out.o (by rw [HM2.out]; exact M14.out.s), (M14.out.t.far (p := ⟨G, 0, none⟩) hTG _).far (p := ⟨G, 2, none⟩) hTG _, ((NR.out.trans (Tn.of M14.out.b)).set 0 _).set 2 _, ?_⟩
            unfold Hid
            rw [World.size_setCell, World.size_setCell]
            exact M14.out.z
        · obtain ⟨W13, hW13⟩ : ∃ W9, W0.alloc (.cells #[.string ⟨#[]⟩] 9) = W9 := ⟨_, rfl⟩
          obtain ⟨H13, hH13⟩ : ∃ H9, W0.heap.size = H9 := ⟨_, rfl⟩
          have M13 : Hid (Grow B G X T wr (.slice A2 n cap2) (.slice OA2 m ocap2) (.slice XA2 n xcap2) (.slice VA no vcap) #[.int .i64 tp, .int .i64 a1, .string a2, .string sp, .slice VA no vcap, .string ⟨#[]⟩] #[.int .i64 a0, .int .i64 a1, .string a2, .string a3, .slice UA un ucap, .bool a5] xx.2.2.2.2.1 st.2 (.slice A2 n cap2) (st.1.map bare) (.slice XA2 n xcap2) (st.1.map txt) W13) := by rw [← hW13]; exact M0.out.below ((Below.refl _ _).alloc (Nat.le_refl _) _)
          have N13 : Hid (Bk W13 H13 9 #[.string ⟨#[]⟩]) := by rw [← hW13, ← hH13]; exact Bk.new _ _ _
          have HW13 := Lib.hid hW13
          have HH13 := Lib.hid hH13
          clear hW13 hH13
          go_simp
          rw [HW13.out, HH13.out]
          refine hK.out _ _ (fun _ _ => HSof.out _ _ _ _ _ M13.out) ?_
          clear hK K
          try simp only [Act.put, List.setIfInBounds_toArray, List.set_cons_zero, List.set_cons_succ]
          refine Any.up (rs := [7]) (by kernel_rfl) (by simp) ?_
          refine AllUp.cons (i := 7) rfl (fun K hK => ?_) (AllUp.nil)
          obtain ⟨W7, hW7⟩ : ∃ W9, W13.alloc (.cells #[.int .i64 tp, .int .i64 a1, .string a2, .string sp, .slice VA no vcap, .string ⟨#[]⟩] 34) = W9 := ⟨_, rfl⟩
          obtain ⟨H7, hH7⟩ : ∃ H9, W13.heap.size = H9 := ⟨_, rfl⟩
          have M7 : Hid (Grow B G X T wr (.slice A2 n cap2) (.slice OA2 m ocap2) (.slice XA2 n xcap2) (.slice VA no vcap) #[.int .i64 tp, .int .i64 a1, .string a2, .string sp, .slice VA no vcap, .string ⟨#[]⟩] #[.int .i64 a0, .int .i64 a1, .string a2, .string a3, .slice UA un ucap, .bool a5] xx.2.2.2.2.1 st.2 (.slice A2 n cap2) (st.1.map bare) (.slice XA2 n xcap2) (st.1.map txt) W7) := by rw [← hW7]; exact M13.out.below ((Below.refl _ _).alloc (Nat.le_refl _) _)
          have N7 : Hid (Bk W7 H7 34 #[.int .i64 tp, .int .i64 a1, .string a2, .string sp, .slice VA no vcap, .string ⟨#[]⟩]) := by rw [← hW7, ← hH7]; exact Bk.new _ _ _
          have HW7 := Lib.hid hW7
          have HH7 := Lib.hid hH7
          have N13_7 : Hid (Bk W7 H13 9 #[.string ⟨#[]⟩]) := by unfold Hid; rw [← hW7]; exact N13.out.alloc _
          clear hW7 hH7
          go_simp
          rw [HW7.out, HH7.out]
          refine hK.out _ _ (fun _ _ => HSof.out _ _ _ _ _ M7.out) ?_
          clear hK K
          try simp only [Act.put, List.setIfInBounds_toArray, List.set_cons_zero, List.set_cons_succ]
          refine Any.up (rs := [8]) (by kernel_rfl) (by simp) ?_
          refine AllUp.cons (i := 8) rfl (fun K hK => ?_) (AllUp.nil)
          refine grow_node rfl _ _ rfl xx M7.out tp a1 a2 sp ⟨#[]⟩ X0.out X1.out X2'.out X3.out X5.out N7.out rfl rfl LN.out HAX.out ?_
          intro v8 W8 m8 k8
          have M8 := Lib.hid m8
          have N13_7_8 := Lib.hid (k8 _ _ _ N13_7.out (by decide))
          obtain ⟨A8, c8, hv8⟩ := m8.n.slice
          rw [List.length_append, List.length_map, List.length_singleton, HN.out] at hv8
          subst hv8
          clear m8 k8
          refine hK.out _ _ (fun _ _ => HSof.out _ _ _ _ _ M8.out) ?_
          clear hK K
          try simp only [Act.put, List.setIfInBounds_toArray, List.set_cons_zero, List.set_cons_succ]
          refine Any.up (rs := [14]) (by kernel_rfl) (by simp) ?_
          refine AllUp.cons (i := 14) rfl (fun K hK => ?_) (AllUp.nil)
          refine grow_text rfl _ _ rfl M8.out [] ⟨#[]⟩ rfl N13_7_8.out rfl rfl LT.out ?_
          intro v14 W14 m14
          have M14 := Lib.hid m14
          obtain ⟨A14, c14, hv14⟩ := m14.s.slice
          rw [List.length_append, List.length_map, List.length_singleton, HN.out] at hv14
          subst hv14
          clear m14
          refine hK.out _ _ (fun _ _ => HSof.out _ _ _ _ _ M14.out) ?_
          clear hK K
          try simp only [Act.put, List.setIfInBounds_toArray, List.set_cons_zero, List.set_cons_succ]
          refine Any.up (rs := [15]) (by kernel_rfl) (by simp) ?_
          refine AllUp.cons (i := 15) rfl (fun K hK => ?_) (AllUp.nil)
          go_simp
          refine hK.out _ _ (fun _ _ => HSof.out _ _ _ _ _ M14.out) ?_
          clear hK K
          try simp only [Act.put, List.setIfInBounds_toArray, List.set_cons_zero, List.set_cons_succ]
          refine Any.up (rs := [16]) (by kernel_rfl) (by simp) ?_
          refine AllUp.cons (i := 16) rfl (fun K hK => ?_) (AllUp.nil)
          go_simp
          refine hK.out _ _ (fun _ _ => HSof.out _ _ _ _ _ M14.out) ?_
          clear hK K
          try simp only [Act.put, List.setIfInBounds_toArray, List.set_cons_zero, List.set_cons_succ]
          refine Any.up (rs := [17]) (by kernel_rfl) (by simp) ?_
          refine AllUp.cons (i := 17) rfl (fun K hK => ?_) (AllUp.nil)
          have y0 := M14.out.g.cell 0
          have y1 := M14.out.g.free 0
          go_simp
          refine hK.out _ _ (fun hne _ => absurd rfl hne) ?_
          clear hK K y0 y1
          try simp only [Act.put, List.setIfInBounds_toArray, List.set_cons_zero, List.set_cons_succ]
          have g17 : Hid (Bk (W14.setCell ⟨G, 0, none⟩ (.slice A8 (n + 1) c8)) G 57 #[(.slice A8 (n + 1) c8), .slice OA2 m ocap2, .slice XA2 n xcap2]) := by unfold Hid; simpa using Bk.put M14.out.g 0 (.slice A8 (n + 1) c8)
          refine Any.up (rs := [18]) (by kernel_rfl) (by simp) ?_
          refine AllUp.cons (i := 18) rfl (fun K hK => ?_) (AllUp.nil)
          go_simp
          refine hK.out _ _ (fun _ hv => no_more (by kernel_rfl) hv) ?_
          clear hK K
          try simp only [Act.put, List.setIfInBounds_toArray, List.set_cons_zero, List.set_cons_succ]
          refine Any.up (rs := [19]) (by kernel_rfl) (by simp) ?_
          refine AllUp.cons (i := 19) rfl (fun K hK => ?_) (AllUp.nil)
          go_simp
          refine hK.out _ _ (fun _ hv => no_more (by kernel_rfl) hv) ?_
          clear hK K
          try simp only [Act.put, List.setIfInBounds_toArray, List.set_cons_zero, List.set_cons_succ]
          refine Any.up (rs := [20]) (by kernel_rfl) (by simp) ?_
          refine AllUp.cons (i := 20) rfl (fun K hK => ?_) (AllUp.nil)
          have y0 := g17.out.cell 2
          have y1 := g17.out.free 2
          go_simp
          refine hK.out _ _ (fun _ hv => no_more (by kernel_rfl) hv) ?_
          clear hK K y0 y1
          try simp only [Act.put, List.setIfInBounds_toArray, List.set_cons_zero, List.set_cons_succ]
          refine Any.done (by kernel_rfl) ?_ _
          try go_wp2_with fail
          go_meet
          as_aux_lemma =>
          have hTG : T ≠ G := Bk.type_ne M14.out.t M14.out.g (by decide)
          refine ⟨rfl, RS.of_puts (st := (st.1 ++ [xx], st.2)) M14.out.g (by rw [HM1.out]; exact M14.out.n) M14.out.o (by rw [HM2.out]; exact M14.out.s), (M14.out.t.far (p := ⟨G, 0, none⟩) hTG _).far (p := ⟨G, 2, none⟩) hTG _, ((NR.out.trans (Tn.of M14.out.b)).set 0 _).set 2 _, ?_⟩
          unfold Hid
          rw [World.size_setCell, World.size_setCell]
          exact M14.out.z
      case rest =>
        obtain ⟨rfl, R9, T9, N9, Z9⟩ := hcut
        have t5 : wc.cell? ⟨T, 5, none⟩ = some (.bool a5) := T9.out.cell 5
        clear GBR GNR GOR GTR RA NR ZR X0 X1 X2' X3 X5 XA XB XT ht hx hb hz c4 O9 LN LT
        cases a5 with
        | true =>
          have HBE : Hid (beginL st t = (st.1 ++ [xx], st.2)) := by unfold Hid; rw [HBEG.out, XN.out]; rfl
          clear HBEG
          go_wp2_with fail
          refine bodyPost_ret (v := .int .i64 0) (by simp [results, Tryz.results37, go_sem]) rfl ?_
          rw [HBZ.out]
          exact ⟨rfl, by rw [if_pos rfl, HBE.out]; exact R9.out, N9.out⟩
        | false =>
          have HBE : Hid (beginL st t = (st.1 ++ [xx], st.2 ++ [n])) := by unfold Hid; rw [HBEG.out, XN.out]; rfl
          clear HBEG
          obtain ⟨A3, cap3, OA3, ocap3, XA3, xcap3, gb, gn, go, gt⟩ := R9.out.cells
          have hln : (st.1 ++ [xx]).length = n + 1 := by rw [List.length_append, HN.out]; rfl
          rw [hln] at gb gn gt
          rw [show (st.1 ++ [xx], st.2).2 = st.2 from rfl, HM.out] at gb go
          have G9 := Lib.hid gb
          have GN9 := Lib.hid gn
          have GO9 := Lib.hid go
          have GT9 := Lib.hid gt
          have q0 : wc.cell? ⟨G, 0, none⟩ = some (.slice A3 (n + 1) cap3) := G9.out.cell 0
          have q1 : wc.cell? ⟨G, 1, none⟩ = some (.slice OA3 m ocap3) := G9.out.cell 1
          have q1a : ∀ o, (wc.alloc o).cell? ⟨G, 1, none⟩ = some (.slice OA3 m ocap3) := fun o => (G9.out.alloc o).cell 1
          have LM : Hid (st.2.length ≤ 1000000000) := by unfold Hid; rw [HM.out]; omega
          have hwn : IntKind.i64.wrap (n : Int) = (n : Int) := by rw [IntKind.wrap_i64]; omega
          have hwn1 : IntKind.i64.wrap ((n : Int) + 1 - 1) = (n : Int) := by rw [IntKind.wrap_i64]; omega
          clear gb gn go gt hln R9
          go_upto_region 20 with fail
          go_region_law (refine step_int rfl _ _ rfl B (.slice OA3 m ocap3) st.2 n (n : Int) rfl wc _ _ ?_ ?_ rfl GO9.out rfl LM.out Z9.out ?_; (first | exact (Below.refl _ _).alloc (Nat.le_refl _) _ | exact ((Below.refl _ _).alloc (Nat.le_refl _) _).drew | exact (Below.refl _ _).drew.alloc (Nat.le_refl _) _); (first | exact Bk.new _ _ _ | exact Bk.drewW (Bk.new _ _ _)); intro v8 w8 o8 b8 k8; have g8 := k8 _ _ _ G9.out (by decide); obtain ⟨A8, cap8, hv8⟩ := o8.slice; subst hv8; have j1 : w8.cell? ⟨G, 1, none⟩ = some (.slice OA3 m ocap3) := g8.cell 1; have e1 : w8.frozen? ⟨G, 1, none⟩ = false := g8.free 1; have G8 := Lib.hid g8; have O8 := Lib.hid o8; have B8 := Lib.hid b8; have N8 := Lib.hid (GN9.out.keep (w' := w8) (fun k cs hk => k8 k cs _ hk (by decide)) (fun k cs hk => k8 k cs _ hk (by decide))); have T8 := Lib.hid (GT9.out.keep (w' := w8) (fun k cs hk => k8 k cs _ hk (by decide))); clear o8 b8 k8 g8)
          all_goals
            rw [List.length_append, List.length_singleton, HM.out] at O8
            clear q0 q1 q1a j1 e1 t5
            go_wp2_with fail
            refine bodyPost_ret (v := .int .i64 0) (by simp [results, Tryz.results37, go_sem]) rfl ?_
            rw [HBZ.out]
            refine ⟨rfl, ?_, (N9.out.trans (Tn.of B8.out)).set 1 _⟩
            rw [if_pos rfl, HBE.out]
            rw [HM.out]
            exact RS.of_put1 (st := (st.1 ++ [xx], st.2 ++ [n])) G8.out N8.out O8.out T8.out
end Go.Proofs.YtpomcamkkcggmaaGreatDoor
