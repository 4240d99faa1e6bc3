/-
  The law TokenJoins.
-/
import Derived.Test.YtlpjealcmnnbnaaDoorTkL3
import Derived.Test.YtlpjealcmnnbnaaDoorTkQ
import Derived.Test.YtlpjealcmnnbnaaDoorTokQ
namespace Go.Proofs.YtlpjealcmnnbnaaDoor
open Go.RowKit Tk

theorem kts_set (z : Nat) : ∀ (ks : List (TokA × Value)) (i : Nat) (q : TokA × Value), ks[i]? = some q → kts (ks.set i ((z, q.1.2), q.2)) = (kts ks).set (i * 6 + 1) (.int .i64 z)
  | [], i, q, h => by simp at h
  | a :: ks, 0, q, h => by
    obtain rfl : a = q := by simpa using h
    rw [List.set_cons_zero, kts_cons, kts_cons, List.set_append_left _ _ (by simp [encK])]
    rfl
  | a :: ks, i + 1, q, h => by
    have ih := kts_set z ks i q (by simpa using h)
    rw [List.set_cons_succ, kts_cons, kts_cons, ih, List.set_append_right _ _ (by simp [encK]; omega)]
    congr 2
    simp [encK]
    omega
theorem OwnK.setAt {B : Nat} {w : World} {g n cap : Nat} {ts : List TokA} (h : OwnK B w (.slice (some ⟨g, 0, none⟩) n cap) ts) {i : Nat} {p : TokA} (hi : ts[i]? = some p) (z : Nat) :
    OwnK B (w.setCell ⟨g, i * 6 + 1, none⟩ (.int .i64 z)) (.slice (some ⟨g, 0, none⟩) n cap) (ts.set i (z, p.2)) := by
  obtain ⟨ks, rfl, h', hr⟩ := h
  rw [List.getElem?_map] at hi
  obtain ⟨q, hq, rfl⟩ := Option.map_eq_some_iff.1 hi
  have hB : n = ks.length ∧ ∃ cs, Bk w g 33 cs := by
    rcases h'.2 with ⟨e, _⟩ | ⟨g', cap', cur, e, _, hh, _⟩
    · simp at e
    · injection e with e en _
      injection e with e
      injection e with e _ _
      subst e
      exact ⟨en, cur, hh⟩
  obtain ⟨rfl, cs, hcs⟩ := hB
  refine ⟨ks.set i ((z, q.1.2), q.2), ?_, ?_, fun k hk => ?_⟩
  · rw [List.map_set]
  · rw [kts_set z ks i q hq, List.length_set]
    exact (h'.stored (i * 6 + 1) _).1
  · have hka := KeepA.set hcs (by decide) (i * 6 + 1) (.int .i64 z)
    rcases List.mem_or_eq_of_mem_set hk with hk | rfl
    · exact (hr k hk).keep hka
    · exact (hr q (List.mem_of_getElem? hq)).keep hka
theorem OwnK.keep1 {B : Nat} {w w' : World} {g n cap : Nat} {ts : List TokA} (h : OwnK B w (.slice (some ⟨g, 0, none⟩) n cap) ts) (hb : w'.heap[g]? = w.heap[g]?) (ha : KeepA w w') : OwnK B w' (.slice (some ⟨g, 0, none⟩) n cap) ts := by
  obtain ⟨ks, rfl, h', hr⟩ := h
  refine ⟨ks, rfl, ?_, fun k hk => (hr k hk).keep ha⟩
  rcases h'.2 with ⟨e, _⟩ | ⟨g', cap', cur, e, hg, hh, h1, h2, h3, h4⟩
  · simp at e
  · have e0 := e
    injection e with e _ _
    injection e with e
    injection e with e _ _
    subst e
    exact ⟨h'.1, .inr ⟨g, cap', cur, e0, hg, hb.trans hh, h1, h2, h3, h4⟩⟩
theorem OwnK.bk {B : Nat} {w : World} {g n cap : Nat} {ts : List TokA} (h : OwnK B w (.slice (some ⟨g, 0, none⟩) n cap) ts) : ∃ cs, Bk w g 33 cs := by
  obtain ⟨ks, rfl, h', hr⟩ := h
  rcases h'.2 with ⟨e, _⟩ | ⟨g', cap', cur, e, _, hh, _⟩
  · simp at e
  · injection e with e _ _
    injection e with e
    injection e with e _ _
    subst e
    exact ⟨cur, hh⟩
theorem ReadK.take {w : World} {A : Option Addr} {n cap : Nat} {ts : List TokA} (h : ReadK w (.slice A n cap) ts) {m : Nat} (hm : m ≤ ts.length) : ReadK w (.slice A m cap) (ts.take m) := by
  obtain ⟨A', cap', e, h1, h2, h3⟩ := h
  injection e with e1 e2 e3
  subst e1 e3
  refine ⟨A, cap, by rw [List.length_take, Nat.min_eq_left hm], by rw [List.length_take]; omega, h2, fun h0 => ?_⟩
  rw [List.length_take] at h0
  obtain ⟨g, o, rfl, h4, h5⟩ := h3 (by omega)
  refine ⟨g, o, rfl, h4, fun i t hi => h5 i t ?_⟩
  have := (List.getElem?_eq_some_iff.1 hi).1
  rw [List.length_take] at this
  rwa [List.getElem?_take_of_lt (by omega)] at hi
theorem ReadK.drop {w : World} {g o n cap : Nat} {ts : List TokA} (h : ReadK w (.slice (some ⟨g, o, none⟩) n cap) ts) {m k : Nat} (hm : m ≤ ts.length) (hk : ts.length - m = k) : ReadK w (.slice (some ⟨g, o + m * 6, none⟩) k (cap - m)) (ts.drop m) := by
  obtain ⟨A', cap', e, h1, h2, h3⟩ := h
  injection e with e1 e2 e3
  subst e1 e3
  refine ⟨_, cap - m, by rw [List.length_drop, hk], by rw [List.length_drop]; omega, by omega, fun h0 => ?_⟩
  rw [List.length_drop] at h0
  obtain ⟨g', o', e', h4, h5⟩ := h3 (by omega)
  injection e' with e'
  injection e' with e1' e2' _
  subst e1' e2'
  refine ⟨g, o + m * 6, rfl, h4, fun i t hi => ?_⟩
  rw [List.getElem?_drop] at hi
  obtain ⟨u, h6, h7⟩ := h5 (m + i) t hi
  exact ⟨u, by rw [show o + m * 6 + i * 6 = o + (m + i) * 6 by omega]; exact h6, h7⟩
/-- the first k of them so much later -/
def laterL (d k : Nat) (ys : List TokA) : List TokA := (ys.take k).map (fun p => (p.1 + d, p.2)) ++ ys.drop k
theorem laterL_zero (d : Nat) (ys : List TokA) : laterL d 0 ys = ys := by simp [laterL]
theorem laterL_all (d : Nat) (ys : List TokA) : laterL d ys.length ys = ys.map (fun p => (p.1 + d, p.2)) := by simp [laterL]
theorem laterL_at (d : Nat) {k : Nat} {ys : List TokA} {p : TokA} (h : ys[k]? = some p) : (laterL d k ys)[k]? = some p ∧ (laterL d k ys).set k (p.1 + d, p.2) = laterL d (k + 1) ys := by
  obtain ⟨h1, h2⟩ := List.getElem?_eq_some_iff.1 h
  have hl : ((ys.take k).map (fun p : TokA => (p.1 + d, p.2))).length = k := by rw [List.length_map, List.length_take]; omega
  unfold laterL
  constructor
  · rw [List.getElem?_append_right (by rw [hl]; exact Nat.le_refl _), hl, Nat.sub_self, List.getElem?_drop]
    exact h
  · rw [List.set_append_right _ _ (by rw [hl]; exact Nat.le_refl _), hl, Nat.sub_self, List.take_add_one, h, List.map_append, List.append_assoc]
    congr 1
    rw [List.drop_eq_getElem_cons h1, h2]
    rfl
theorem laterL_len (d k : Nat) (ys : List TokA) (h : k ≤ ys.length) : (laterL d k ys).length = ys.length := by
  unfold laterL
  rw [List.length_append, List.length_map, List.length_take, List.length_drop]
  omega
theorem OwnK.at1 {B : Nat} {w : World} {g n cap : Nat} {ts : List TokA} (h : OwnK B w (.slice (some ⟨g, 0, none⟩) n cap) ts) {i : Nat} {p : TokA} (hi : ts[i]? = some p) : w.cell? ⟨g, i * 6 + 1, none⟩ = some (.int .i64 p.1) ∧ w.frozen? ⟨g, i * 6 + 1, none⟩ = false := by
  obtain ⟨cs, hcs⟩ := h.bk
  refine ⟨?_, hcs.free _⟩
  obtain ⟨g', cap', e, _, _, _, _, hat⟩ := h.elem (by have := (List.getElem?_eq_some_iff.1 hi).1; omega)
  injection e with e _ _
  injection e with e
  injection e with e _ _
  subst e
  obtain ⟨u, ⟨_, h1, _⟩, _⟩ := hat i p hi
  exact h1
set_option maxHeartbeats 8000000 in
set_option maxRecDepth 100000 in
theorem tokenJoins_any (a b : ByteArray) (w : World) (hT : Tabs w) (hE : ErrS w) (ha : a.size ≤ maxLen) (hb : b.size ≤ maxLen) :
    Calls Tryd.prog 6 #[.string a, .string b] w (Holds w) := by
  unfold maxLen at ha hb
  have HTab := Lib.hid (fun (W : World) (h : Below w.heap.size w W) => And.intro (hT.below h) (hE.below h))
  have HA := Lib.hid (fun (W : World) (h : Below w.heap.size w W) => awake_any W (HTab.out W h).1 (HTab.out W h).2)
  have HTk := Lib.hid (fun (s : ByteArray) (W : World) (h : Below w.heap.size w W) (h2 : s.size < 4000000000) => tokens_any s W (HTab.out W h).1 (HTab.out W h).2 h2)
  clear hT hE
  by_cases hbig : 1500 < a.size
  · go_enter Tryd.func6, Tryd.ntmps6
    go_wp2_with (go_at_call 8; refine (HA.out _ (Below.refl _ _)).mono ?_; rintro e w1 ⟨rfl, b1⟩)
    go_ret
    exact ⟨rfl, b1⟩
  by_cases hbig2 : 1500 < b.size
  · go_enter Tryd.func6, Tryd.ntmps6
    go_wp2_with (go_at_call 8; refine (HA.out _ (Below.refl _ _)).mono ?_; rintro e w1 ⟨rfl, b1⟩)
    go_ret
    exact ⟨rfl, b1⟩
  have ha2 : a.size ≤ 1500 := by omega
  have hb2 : b.size ≤ 1500 := by omega
  have hqs : (⟨#[60, 113, 47, 62]⟩ : ByteArray).size = 4 := rfl
  have H1 := Lib.hid (fun (W : World) h => HTk.out (a ++ ⟨#[60, 113, 47, 62]⟩) W h (by rw [ByteArray.size_append, hqs]; omega))
  have H2 := Lib.hid (fun (W : World) h => HTk.out ((⟨#[60, 113, 47, 62]⟩ : ByteArray) ++ b) W h (by rw [ByteArray.size_append, hqs]; omega))
  have H3 := Lib.hid (fun (W : World) h => HTk.out (a ++ (⟨#[60, 113, 47, 62]⟩ : ByteArray) ++ b) W h (by rw [ByteArray.size_append, ByteArray.size_append, hqs]; omega))
  rw [show (a ++ (⟨#[60, 113, 47, 62]⟩ : ByteArray)).data.toList = a.data.toList ++ quo from by simp [quo]] at H1
  rw [show ((⟨#[60, 113, 47, 62]⟩ : ByteArray) ++ b).data.toList = quo ++ b.data.toList from by simp [quo]] at H2
  rw [show (a ++ (⟨#[60, 113, 47, 62]⟩ : ByteArray) ++ b).data.toList = a.data.toList ++ quo ++ b.data.toList from by simp [quo]] at H3
  have HJ := Lib.hid (fun h1 h2 => joins (a := a.data.toList) (b := b.data.toList) h1 h2 (by rw [← Lib.size_eq, ← Lib.size_eq]; omega))
  rw [← Lib.size_eq, ← Lib.size_eq] at HJ
  have HC3 := Lib.hid (toks_attrs (a.data.toList ++ quo ++ b.data.toList) (by simp only [List.length_append]; rw [← Lib.size_eq, ← Lib.size_eq]; show a.size + 4 + b.size ≤ _; omega))
  have HC1 := Lib.hid (toks_attrs (a.data.toList ++ quo) (by simp only [List.length_append]; rw [← Lib.size_eq]; show a.size + 4 ≤ _; omega))
  have HC2 := Lib.hid (toks_attrs (quo ++ b.data.toList) (by simp only [List.length_append]; rw [← Lib.size_eq]; show 4 + b.size ≤ _; omega))
  have HN3 := Lib.hid (toks_count (a.data.toList ++ quo ++ b.data.toList) (by simp only [List.length_append]; rw [← Lib.size_eq, ← Lib.size_eq]; show a.size + 4 + b.size ≤ _; omega))
  obtain ⟨O1, hO1⟩ : ∃ O, tokensL (a.data.toList ++ quo) = O := ⟨_, rfl⟩
  obtain ⟨O2, hO2⟩ : ∃ O, tokensL (quo ++ b.data.toList) = O := ⟨_, rfl⟩
  obtain ⟨O3, hO3⟩ : ∃ O, tokensL (a.data.toList ++ quo ++ b.data.toList) = O := ⟨_, rfl⟩
  rw [hO1, hO2, hO3] at HJ
  rw [hO1] at H1 HC1
  rw [hO2] at H2 HC2
  rw [hO3] at H3 HC3 HN3
  clear hO1 hO2 hO3
  by_cases hok : O1.2.2 = 0 ∧ O2.2.2 = 0
  · obtain ⟨xs, t, ys, e1, e2, e4, e3⟩ := HJ.out hok.1 hok.2
    subst e1 e2 e3
    have HYl : Hid (∀ p ∈ ((0, t) :: ys : List TokA), p.1 ≤ 2000) := fun p hp => by
      rcases List.mem_cons.1 hp with rfl | hp
      · simp
      · have := e4 p hp; omega
    have HEQ1 : Hid ((xs ++ (a.size, t) :: ys.map (fun p => (p.1 + a.size, p.2))).take (xs ++ [(a.size, t)]).length = xs ++ [(a.size, t)]) := by
      unfold Hid
      rw [show xs ++ (a.size, t) :: ys.map (fun p => (p.1 + a.size, p.2)) = (xs ++ [(a.size, t)]) ++ ys.map (fun p => (p.1 + a.size, p.2)) by simp]
      exact List.take_left' rfl
    have HEQ2 : Hid ((xs ++ (a.size, t) :: ys.map (fun p => (p.1 + a.size, p.2))).drop ((xs ++ [(a.size, t)]).length - 1) = ((0, t) :: ys).map (fun p => (p.1 + a.size, p.2))) := by
      unfold Hid
      rw [List.drop_left' (by simp)]
      simp
    obtain ⟨nx, hnx⟩ : ∃ n, (xs ++ [(a.size, t)]).length = n := ⟨_, rfl⟩
    obtain ⟨ny, hny⟩ : ∃ n, ((0, t) :: ys).length = n := ⟨_, rfl⟩
    obtain ⟨nz, hnz⟩ : ∃ n, (xs ++ (a.size, t) :: ys.map (fun p => (p.1 + a.size, p.2))).length = n := ⟨_, rfl⟩
    have hnz2 : nx + ny - 1 = nz := by rw [← hnx, ← hny, ← hnz]; simp; omega
    have hnz3 : nz ≤ 100000 := by rw [← hnz]; exact HN3.out
    have hnx1 : 1 ≤ nx := by rw [← hnx]; simp
    have hny1 : 1 ≤ ny := by rw [← hny]; simp
    rw [hnx] at HEQ1 HEQ2
    obtain ⟨X, hX⟩ : ∃ X, xs ++ [(a.size, t)] = X := ⟨_, rfl⟩
    obtain ⟨Y, hY⟩ : ∃ Y, ((0, t) :: ys : List TokA) = Y := ⟨_, rfl⟩
    obtain ⟨Z, hZ⟩ : ∃ Z, xs ++ (a.size, t) :: ys.map (fun p => (p.1 + a.size, p.2)) = Z := ⟨_, rfl⟩
    rw [hX] at H1 HC1 HEQ1 hnx
    rw [hY] at H2 HC2 HEQ2 HYl hny
    rw [hZ] at H3 HC3 HEQ1 HEQ2 hnz
    have HNX := Lib.hid hnx
    have HNY := Lib.hid hny
    have HNZ := Lib.hid hnz
    have hX0 : 0 < X.length := by omega
    have hY0 : 0 < Y.length := by omega
    have hZ0 : 0 < Z.length := by omega
    clear HJ hok e4 HN3 hX hY hZ
    go_enter Tryd.func6, Tryd.ntmps6
    go_wp2_with fail
    refine (H1.out w (Below.refl _ _)).mono ?_
    rintro e w1 ⟨⟨v1, rfl, o1⟩, b1⟩
    have B1 := Lib.hid b1
    obtain ⟨gx, capx, rfl, _, hgx, hcx, _, _⟩ := o1.elem hX0
    rw [hnx] at o1
    have OX1 := Lib.hid o1
    have ZX := Lib.hid hgx
    simp only
    rw [hnx]
    clear b1 o1 hgx hcx
    go_wp2_with fail
    refine (H2.out w1 B1.out).mono ?_
    rintro e w2 ⟨⟨v2, rfl, o2⟩, b2⟩
    have B2 : Hid (Below w.heap.size w w2) := B1.out.trans (b2.mono B1.out.size)
    obtain ⟨gy, capy, rfl, hy1, hgy, hcy, _, _⟩ := o2.elem hY0
    rw [hny] at o2
    have OX2 := Lib.hid (OX1.out.below b2)
    have OY2 := Lib.hid o2
    have ZY := Lib.hid hgy
    have ZXY : Hid (gx < gy) := by have := ZX.out; unfold Hid; omega
    have ZYw : Hid (w.heap.size ≤ gy) := by have := B1.out.size; unfold Hid; omega
    simp only
    rw [hny]
    clear b2 o2 hgy hcy hy1
    go_wp2_with fail
    refine (H3.out w2 B2.out).mono ?_
    rintro e w3 ⟨⟨v3, rfl, o3⟩, b3⟩
    have B3 : Hid (Below w.heap.size w w3) := B2.out.trans (b3.mono B2.out.size)
    obtain ⟨gz, capz, rfl, hz1, hgz, hcz, hcz2, _⟩ := o3.elem hZ0
    rw [hnz] at o3 hcz
    have OX3 := Lib.hid (OX2.out.below b3)
    have OY3 := Lib.hid (OY2.out.below b3)
    have OZ3 := Lib.hid o3
    have ZYZ : Hid (gy < gz) := by have := ZY.out; unfold Hid; omega
    have HCZ := Lib.hid hcz
    have HCZ2 := Lib.hid hcz2
    simp only
    rw [hnz]
    clear b3 o3 hgz hcz hcz2 hz1 hnx hny hnz hX0 hY0 hZ0
    have g1 : decide ((nx : Int) < 1) = false := decide_eq_false (by omega)
    have g2 : decide ((ny : Int) < 1) = false := decide_eq_false (by omega)
    have hnz4 : (nx : Int) + (ny : Int) - 1 = (nz : Int) := by omega
    have HNZ2 := Lib.hid hnz2
    have hnxb : nx ≤ 100000 := by omega
    have hnyb : ny ≤ 100000 := by omega
    clear hnz2
    go_wp2_with fail
    go_loopw [14] (fun iv wr => ∃ k : Nat, k ≤ ny ∧ iv = .int .i64 k ∧ Hid (OwnK w1.heap.size wr (.slice (some ⟨gy, 0, none⟩) ny capy) (laterL a.size k Y)) ∧ Hid (OwnK w.heap.size wr (.slice (some ⟨gx, 0, none⟩) nx capx) X) ∧ Hid (OwnK w2.heap.size wr (.slice (some ⟨gz, 0, none⟩) nz capz) Z) ∧ Hid (Below w.heap.size w wr)) (fun iv _ => ny - (intOf iv).toNat)
    case atStart => exact ⟨0, Nat.zero_le _, rfl, by rw [laterL_zero]; exact OY3.out, OX3.out, OZ3.out, B3.out⟩
    case round =>
      obtain ⟨k, hk, rfl, hy, hx, hz, hbw⟩ := hrel
      have hsw := hbw.out.size
      by_cases hlt : k < ny
      · obtain ⟨p, hp⟩ : ∃ p, Y[k]? = some p := ⟨_, List.getElem?_eq_getElem (by rw [HNY.out]; exact hlt)⟩
        obtain ⟨l1, l2⟩ := laterL_at a.size hp
        obtain ⟨c1, f1⟩ := hy.out.at1 l1
        have hpl := HYl.out p (List.mem_of_getElem? hp)
        obtain ⟨pz, hpz⟩ : ∃ n : Nat, p.1 = n := ⟨_, rfl⟩
        rw [hpz] at c1 hpl
        obtain ⟨cs, hcs⟩ := hy.out.bk
        have HY1 : Hid (OwnK w1.heap.size (wr.setCell ⟨gy, k * 6 + 1, none⟩ (.int .i64 ((pz + a.size : Nat) : Int))) (.slice (some ⟨gy, 0, none⟩) ny capy) (laterL a.size (k + 1) Y)) := by
          unfold Hid
          rw [← l2, hpz]
          exact hy.out.setAt l1 (pz + a.size)
        have hKA := KeepA.set hcs (by decide) (k * 6 + 1) (.int .i64 ((pz + a.size : Nat) : Int))
        have HX1 : Hid (OwnK w.heap.size (wr.setCell ⟨gy, k * 6 + 1, none⟩ (.int .i64 ((pz + a.size : Nat) : Int))) (.slice (some ⟨gx, 0, none⟩) nx capx) X) := hx.out.keep1 (Below.heap_setCell _ _ _ _ (by have := ZXY.out; show gx ≠ gy; omega)) hKA
        have HZ1 : Hid (OwnK w2.heap.size (wr.setCell ⟨gy, k * 6 + 1, none⟩ (.int .i64 ((pz + a.size : Nat) : Int))) (.slice (some ⟨gz, 0, none⟩) nz capz) Z) := hz.out.keep1 (Below.heap_setCell _ _ _ _ (by have := ZYZ.out; show gz ≠ gy; omega)) hKA
        have HB1 : Hid (Below w.heap.size w (wr.setCell ⟨gy, k * 6 + 1, none⟩ (.int .i64 ((pz + a.size : Nat) : Int)))) := hbw.out.setCell (p := ⟨gy, k * 6 + 1, none⟩) ZYw.out _
        have ez : ((pz + a.size : Nat) : Int) = (pz : Int) + (a.size : Int) := by omega
        rw [ez] at HY1 HX1 HZ1 HB1
        clear hp l1 l2 hpz hcs hKA ez
        go_wp2_with fail
        go_roundw
        case rel => exact ⟨k + 1, by omega, by go_num, HY1.out, HX1.out, HZ1.out, HB1.out⟩
        case measure => simp [intOf]; omega
      · obtain rfl : k = ny := by omega
        have HYA : Hid (OwnK w1.heap.size wr (.slice (some ⟨gy, 0, none⟩) k capy) (Y.map (fun p => (p.1 + a.size, p.2)))) := by
          have := hy.out
          rw [← laterL_all, HNY.out]
          exact this
        have HAW := Lib.hid (HA.out wr hbw.out)
        have hne : ¬ capz = nx - 1 := by have := HCZ.out; have := HNZ2.out; omega
        have hcz1 : nx ≤ capz := by have := HCZ.out; have := HNZ2.out; omega
        have hcz2 : nz ≤ capz := HCZ.out
        obtain ⟨m, hm⟩ : ∃ m, nx - 1 = m := ⟨_, rfl⟩
        have hm1 : (nx : Int) - 1 = (m : Int) := by omega
        rw [hm] at hne HEQ2
        have hmz : m < nz := by have := HNZ2.out; omega
        have HM := Lib.hid hm
        clear hy hm
        go_wp2_with fail
        refine HAW.out.mono ?_
        rintro e w4 ⟨rfl, b4⟩
        have B4 : Hid (Below w.heap.size w w4) := hbw.out.trans (b4.mono hsw)
        have hZ4 := hz.out.below b4
        have hX4 := Lib.hid (hx.out.below b4)
        have hY4 := Lib.hid (HYA.out.below b4)
        have R1 := Lib.hid (hZ4.reads.take (m := nx) (by rw [HNZ.out]; have := HNZ2.out; omega))
        have R2 := Lib.hid (hZ4.reads.drop (m := m) (k := nz - m) (by rw [HNZ.out]; omega) (by rw [HNZ.out]))
        rw [HEQ1.out] at R1
        rw [HEQ2.out, Nat.zero_add] at R2
        have HS1 := Lib.hid (sameK_any (.slice (some ⟨gz, 0, none⟩) nx capz) (.slice (some ⟨gx, 0, none⟩) nx capx) X X w4 R1.out hX4.out.reads (by rw [HNX.out]; omega) (by rw [HNX.out]; omega) (fun t h => Nat.le_trans (HC1.out t h) (by omega)) (fun t h => Nat.le_trans (HC1.out t h) (by omega)))
        rw [decide_eq_true rfl] at HS1
        clear b4 hZ4
        go_wp2_with fail
        refine HS1.out.mono ?_
        rintro e w5 ⟨rfl, b5⟩
        have B5 : Hid (Below w.heap.size w w5) := B4.out.trans (b5.mono B4.out.size)
        have HS2 := Lib.hid (sameK_any (.slice (some ⟨gz, m * 6, none⟩) (nz - m) (capz - m)) (.slice (some ⟨gy, 0, none⟩) k capy) (Y.map (fun p => (p.1 + a.size, p.2))) (Y.map (fun p => (p.1 + a.size, p.2))) w5 (R2.out.below b5) (hY4.out.reads.below b5) (by rw [List.length_map, HNY.out]; omega) (by rw [List.length_map, HNY.out]; omega)
          (fun t h => by obtain ⟨p, hp, rfl⟩ := List.mem_map.1 h; exact Nat.le_trans (HC2.out p hp) (by omega)) (fun t h => by obtain ⟨p, hp, rfl⟩ := List.mem_map.1 h; exact Nat.le_trans (HC2.out p hp) (by omega)))
        rw [decide_eq_true rfl] at HS2
        clear b5
        go_wp2_with fail
        refine HS2.out.mono ?_
        rintro e w6 ⟨rfl, b6⟩
        go_wp2_with fail
        go_ret
        exact ⟨rfl, B5.out.trans (b6.mono B5.out.size)⟩
  · have HJ2 := Lib.hid hok
    obtain ⟨q1, hq1⟩ : ∃ q : Int, (O1.2.2 : Int) = q := ⟨_, rfl⟩
    obtain ⟨q2, hq2⟩ : ∃ q : Int, (O2.2.2 : Int) = q := ⟨_, rfl⟩
    have hqq : (q1 != 0) = true ∨ ((q1 != 0) = false ∧ (q2 != 0) = true) := by
      by_cases h1 : O1.2.2 = 0
      · have h2 : O2.2.2 ≠ 0 := fun h => hok ⟨h1, h⟩
        refine .inr ⟨?_, ?_⟩
        · simp; omega
        · simp; omega
      · refine .inl ?_
        simp
        omega
    have HQ1 := Lib.hid hq1
    have HQ2 := Lib.hid hq2
    clear hok hq1 hq2 HJ HC1 HC2 HC3 HN3
    rcases hqq with gq | ⟨gq, gq2⟩
    all_goals
      go_enter Tryd.func6, Tryd.ntmps6
      go_wp2_with fail
      refine (H1.out w (Below.refl _ _)).mono ?_
      rintro e w1 ⟨⟨v1, rfl, o1⟩, b1⟩
      have B1 := Lib.hid b1
      obtain ⟨A1, cap1, rfl⟩ := o1.len
      rw [HQ1.out]
      clear b1 o1
      go_wp2_with fail
      refine (H2.out w1 B1.out).mono ?_
      rintro e w2 ⟨⟨v2, rfl, o2⟩, b2⟩
      have B2 : Hid (Below w.heap.size w w2) := B1.out.trans (b2.mono B1.out.size)
      obtain ⟨A2, cap2, rfl⟩ := o2.len
      rw [HQ2.out]
      clear b2 o2
      go_wp2_with fail
      refine (H3.out w2 B2.out).mono ?_
      rintro e w3 ⟨⟨v3, rfl, o3⟩, b3⟩
      have B3 : Hid (Below w.heap.size w w3) := B2.out.trans (b3.mono B2.out.size)
      obtain ⟨A3, cap3, rfl⟩ := o3.len
      clear b3 o3
      go_wp2_with (go_at_call 8; refine (HA.out _ B3.out).mono ?_; rintro e w4 ⟨rfl, b4⟩)
      go_ret
      exact ⟨rfl, B3.out.trans (b4.mono B3.out.size)⟩
end Go.Proofs.YtlpjealcmnnbnaaDoor
