/- Texts laid together: CnM CnI CnN CnA CnW -/
import Derived.Test.YtbkfmbkamocllaaGreatDoorKids
import Derived.Test.YtbkfmbkamocllaaGreatDoorCanA
import Derived.Deep.Slices
import Derived.Test.YtbkfmbkamocllaaGreatDoorShelf
import Derived.Test.YtbkfmbkamocllaaGreatDoorTkM
import Derived.Shelf.Strings.SlTrimAscii
import Derived.Lib.SlicesS
import Derived.Test.YtbkfmbkamocllaaGreatDoorVal
/-
  NODES THAT CAN BE READ, each slice within its capacity; slices of numbers, cut.
-/
namespace Go.Proofs.YtbkfmbkamocllaaGreatDoor
open Go.RowKit Tk Tr

/-- Attributes that can be read, within their capacity. -/
def ReadC (w : World) (u : Value) (l : List Att) : Prop := ∃ A cap, u = .slice A l.length cap ∧ l.length ≤ cap ∧ (cap ≤ maxLen ∧ (A = none → cap = 0)) ∧ (0 < l.length → ∃ ad : Addr, A = some ad ∧ ad.block < w.heap.size ∧ ∀ i a, l[i]? = some a → w.cell? (ad.add (i * 2)) = some (.string (bts a.1)) ∧ w.cell? ⟨(ad.add (i * 2)).block, (ad.add (i * 2)).off + 1, none⟩ = some (.string (bts a.2)))
theorem ReadC.reads {w : World} {u : Value} {l : List Att} (h : ReadC w u l) : ReadA w u l := by
  obtain ⟨A, cap, rfl, _, _, h2⟩ := h
  exact ⟨A, cap, rfl, h2⟩
theorem ReadC.below {w w' : World} {u : Value} {l : List Att} (h : ReadC w u l) (hb : Below w.heap.size w w') : ReadC w' u l := by
  obtain ⟨A, cap, rfl, c1, c2, h2⟩ := h
  refine ⟨A, cap, rfl, c1, c2, fun h0 => ?_⟩
  obtain ⟨ad, rfl, hl, hc⟩ := h2 h0
  refine ⟨ad, rfl, Nat.lt_of_lt_of_le hl hb.size, fun i a hi => ?_⟩
  rw [hb.cell (by rw [addBlock]; exact hl), hb.cell (by show (ad.add (i * 2)).block < _; rw [addBlock]; exact hl)]
  exact hc i a hi
theorem ReadC.nil (w : World) : ReadC w (.slice none 0 0) [] := ⟨none, 0, rfl, Nat.le_refl _, ⟨Nat.zero_le _, fun _ => rfl⟩, fun h => absurd h (Nat.not_lt_zero _)⟩
/-- A slice of nodes that can be read, within its capacity. -/
def ReadM (w : World) (v : Value) (ns : List Nd) : Prop := ∃ A cap, v = .slice A ns.length cap ∧ ns.length ≤ cap ∧ cap ≤ maxLen ∧ (0 < ns.length → ∃ ad : Addr, A = some ad ∧ ad.block < w.heap.size ∧ ∀ i x, ns[i]? = some x → ∃ u, AtN w (ad.add (i * 6)) x u ∧ ReadC w u x.2.2.2.2.1)
theorem ReadM.reads {w : World} {v : Value} {ns : List Nd} (h : ReadM w v ns) : ReadN w v ns := by
  obtain ⟨A, cap, rfl, _, _, h2⟩ := h
  refine ⟨A, cap, rfl, fun h0 => ?_⟩
  obtain ⟨ad, rfl, hl, hc⟩ := h2 h0
  refine ⟨ad, rfl, hl, fun i x hi => ?_⟩
  obtain ⟨u, h3, h4⟩ := hc i x hi
  exact ⟨u, h3, h4.reads⟩
theorem ReadM.below {w w' : World} {v : Value} {ns : List Nd} (h : ReadM w v ns) (hb : Below w.heap.size w w') : ReadM w' v ns := by
  obtain ⟨A, cap, rfl, c1, c2, h2⟩ := h
  refine ⟨A, cap, rfl, c1, c2, fun h0 => ?_⟩
  obtain ⟨ad, rfl, hl, hc⟩ := h2 h0
  refine ⟨ad, rfl, Nat.lt_of_lt_of_le hl hb.size, fun i x hi => ?_⟩
  obtain ⟨u, h3, h4⟩ := hc i x hi
  exact ⟨u, h3.of (hb.block _ (by rw [addBlock]; exact hl)), h4.below hb⟩
/-- the first j numbers of such a slice -/
theorem Owned.cut {B : Nat} {w : World} {A : Option Addr} {n cap : Nat} {x : List Nat} (h : Owned B w (.slice A n cap) x) {j : Nat} (hj : j ≤ x.length) (h0 : 0 < x.length) : Owned B w (.slice A j cap) (x.take j) ∧ j ≤ cap ∧ cap ≤ maxLen := by
  have h' : w.ownsRow B 3 1 (.slice A n cap) x.length (ints x) := h
  rcases h'.2 with ⟨_, hz⟩ | ⟨g, cap', cur, hv, hg, hh, h1, h2, h3, h4⟩
  · omega
  · injection hv with e1 e2 e3
    subst e1 e3
    refine ⟨?_, by omega, h2⟩
    show w.ownsRow B 3 1 _ (x.take j).length (ints (x.take j))
    have hl : (x.take j).length = j := by rw [List.length_take]; omega
    rw [hl]
    refine ⟨by rw [ints_length, hl, Nat.mul_one], .inr ⟨g, cap, cur, rfl, hg, hh, by omega, h2, h3, ?_⟩⟩
    have e : ints (x.take j) = (ints x).take j := by unfold ints; rw [List.map_take]
    rw [e, ← h4, List.take_take]
    congr 1
    omega
/-- one number, written out -/
theorem Owned.one (w : World) (z : Int) (c : Nat) (hz : z = (c : Int)) : Owned w.heap.size (w.alloc (.cells #[.int .i64 z] 3)) (.slice (some ⟨w.heap.size, 0, none⟩) 1 1) [c] := by
  subst hz
  refine ⟨by rw [ints_length]; rfl, .inr ⟨w.heap.size, 1, _, rfl, Nat.le_refl _, heap_alloc_new w _, Nat.le_refl _, by decide, rfl, ?_⟩⟩
  simp [ints]
theorem bts_empty (l : List UInt8) : (bts l).toList.isEmpty = decide (l = []) := by
  rw [ByteArray.toList_mk]
  cases l <;> simp
end Go.Proofs.YtbkfmbkamocllaaGreatDoor
/-
  slices.Index at numbers; package canon: nested.
-/
namespace Go.Proofs.YtbkfmbkamocllaaGreatDoor
open Go.RowKit Tk Tr Cn

theorem posV_hit {p : Int} {x : List Nat} {k : Nat} (h : k < x.length) (hp : ((x.getD k 0 : Nat) : Int) = p) (hno : ∀ j, j < k → ((x.getD j 0 : Nat) : Int) ≠ p) : posV p x = (k : Int) := by
  have hk : x[k]? = some (x.getD k 0) := by rw [List.getD_eq_getElem?_getD, List.getElem?_eq_getElem h]; rfl
  have := posI_some hk hp (fun j b hj hb => by
    have := hno j hj
    rwa [List.getD_eq_getElem?_getD, hb] at this)
  unfold posV
  rw [this]
theorem posV_miss {p : Int} {x : List Nat} (hno : ∀ j, j < x.length → ((x.getD j 0 : Nat) : Int) ≠ p) : posV p x = -1 := by
  have : posI p x = none := by
    rw [posI_none]
    intro a ha
    obtain ⟨j, hj, rfl⟩ := List.getElem_of_mem ha
    have := hno j hj
    rwa [List.getD_eq_getElem?_getD, List.getElem?_eq_getElem hj] at this
  unfold posV
  rw [this]
set_option maxHeartbeats 1000000 in
theorem index_any (v : Value) (x : List Nat) (p : Int) (w : World) (hv : Reads w.heap.size w v x) (hl : x.length ≤ 1000000) :
    Calls Tryz.prog 36 #[v, .int .i64 p] w fun e w' => e = .returned (.int .i64 (posV p x)) ∧ w' = w := by
  obtain ⟨A, cap, rfl, hx⟩ := hv
  have HX := Lib.hid hx
  have HH := Lib.hid (fun (k : Nat) (h : k < x.length) h2 h3 => posV_hit (p := p) h h2 h3)
  have HM := Lib.hid (fun h => posV_miss (p := p) (x := x) h)
  clear hx
  go_enter Tryz.func36, Tryz.ntmps36
  go_wp2_with fail
  go_loop [8] (fun i => ∃ (k : Nat), k ≤ x.length ∧ i = .int .i64 k ∧ Hid (∀ j, j < k → ((x.getD j 0 : Nat) : Int) ≠ p)) (fun i => x.length - (intOf i).toNat)
  case atStart => exact ⟨0, Nat.zero_le _, rfl, Lib.hid (fun j h => absurd h (Nat.not_lt_zero _))⟩
  case round =>
    obtain ⟨k, hk, rfl, hno⟩ := hrel
    by_cases hlt : k < x.length
    · obtain ⟨ad, rfl, hlb, hc⟩ := HX.out (by omega)
      have c0 := hc k hlt
      obtain ⟨c, hcx⟩ : ∃ c, x.getD k 0 = c := ⟨_, rfl⟩
      rw [hcx] at c0
      have HC := Lib.hid hcx
      obtain ⟨z, hz⟩ : ∃ z : Int, ((c : Nat) : Int) = z := ⟨_, rfl⟩
      rw [hz] at c0
      have HZ := Lib.hid hz
      clear hc hcx hz
      by_cases hq : p = z
      · have hf := Lib.hid (HH.out k hlt (by rw [HC.out, HZ.out]; exact hq.symm) hno.out)
        have gq : (p == z) = true := by simpa using hq
        clear hq
        go_wp2_with fail
        go_ret
        exact ⟨by rw [hf.out]; rfl, rfl⟩
      · have hno2 : Hid (∀ j, j < k + 1 → ((x.getD j 0 : Nat) : Int) ≠ p) := Lib.hid (fun j hj => by
          rcases Nat.lt_or_ge j k with h | h
          · exact hno.out j h
          · obtain rfl : j = k := by omega
            rw [HC.out, HZ.out]
            exact fun e => hq e.symm)
        have gq : (p == z) = false := by simpa using hq
        clear hq
        go_wp2_with fail
        go_round
        case rel => exact ⟨k + 1, by omega, by go_num, hno2⟩
        case measure => simp [intOf]; omega
    · have hke : k = x.length := by omega
      have hf := Lib.hid (HM.out (fun j hj => hno.out j (by omega)))
      clear hke
      go_wp2_with fail
      go_ret
      exact ⟨by rw [hf.out]; rfl, rfl⟩
theorem nest_none {ns : List Nd} {o : List Nat} {i : Nat} {x : Nd} {l : List Nd} (h : posI x.1 o = none) : nestF ns o i (x :: l) = false := by unfold nestF; rw [h]
theorem nest_bad {ns : List Nd} {o : List Nat} {i k : Nat} {x : Nd} {l : List Nd} (h : posI x.1 o = some k) (h2 : k + 1 = 12 ∨ textAt ns x.1.toNat ≠ []) : nestF ns o i (x :: l) = false := by unfold nestF; rw [h]; simp only; rw [if_pos h2]
theorem nest_good {ns : List Nd} {o : List Nat} {i k : Nat} {x : Nd} {l : List Nd} (h : posI x.1 o = some k) (h2 : ¬(k + 1 = 12 ∨ textAt ns x.1.toNat ≠ [])) : nestF ns o i (x :: l) = nestF ns (o.take (k + 1) ++ [i + 1]) (i + 1) l := by rw [nestF, h]; simp only; rw [if_neg h2]
theorem posV_none {p : Int} {o : List Nat} (h : posI p o = none) : posV p o = -1 := by unfold posV; rw [h]
theorem posV_some {p : Int} {o : List Nat} {k : Nat} (h : posI p o = some k) : posV p o = k := by unfold posV; rw [h]
set_option maxHeartbeats 4000000 in
set_option maxRecDepth 100000 in
theorem nested_any (v : Value) (ns : List Nd) (w : World) (hv : ReadM w v ns) (h0 : 0 < ns.length) (hl : ns.length ≤ 1000000) :
    Calls Tryz.prog 15 #[v] w fun e w' => e = .returned (.bool (nestB ns)) ∧ Below w.heap.size w w' := by
  obtain ⟨A, cap, rfl, hcap, hmax, hx⟩ := hv
  obtain ⟨ad, rfl, hlb, hc⟩ := hx h0
  have HX := Lib.hid hc
  obtain ⟨n, hn⟩ : ∃ n, ns.length = n + 1 := ⟨ns.length - 1, by omega⟩
  have HN := Lib.hid hn
  obtain ⟨x0, hx0⟩ : ∃ x, ns[0]? = some x := ⟨_, List.getElem?_eq_getElem (by omega)⟩
  obtain ⟨u0, hat0, -⟩ := hc 0 x0 hx0
  have HA0 := Lib.hid hat0
  obtain ⟨Y, hY⟩ : ∃ Y, w.heap.size = Y := ⟨_, rfl⟩
  obtain ⟨W1, hW1⟩ : ∃ W1, w.alloc (.cells #[.int .i64 0] 3) = W1 := ⟨_, rfl⟩
  have HB1 : Hid (Below w.heap.size w W1) := by rw [← hW1]; exact (Below.refl _ _).alloc (Nat.le_refl _) _
  have HO1 : Hid (Owned w.heap.size W1 (.slice (some ⟨Y, 0, none⟩) 1 1) [0]) := by rw [← hW1, ← hY]; exact Owned.one w 0 0 rfl
  have HNB : Hid (nestB ns = (nestF ns [0] 0 (ns.drop 1) && decide (par ns 0 = -1))) := rfl
  have HP0 : Hid (par ns 0 = x0.1) := par_some hx0
  obtain ⟨ad6, h6⟩ : ∃ a, ad.add 6 = a := ⟨_, rfl⟩
  have HAD : Hid (∀ k, ad6.add (k * 6) = ad.add ((k + 1) * 6)) := fun k => by rw [← h6, Go.Deep.add_add]; congr 1; omega
  have HW1 := Lib.hid hW1
  have HYE := Lib.hid hY
  rw [hn] at hcap h0 hl ⊢
  obtain ⟨z0, hz0⟩ : ∃ z : Int, x0.1 = z := ⟨_, rfl⟩
  rw [hz0] at HP0
  have HX0 := HA0.out.1
  rw [Nat.zero_mul] at HX0
  have hadz : ad.add 0 = ad := by unfold Addr.add; rw [if_pos rfl]
  rw [hadz, hz0] at HX0
  clear hx hc hat0 hx0 hn hz0 hW1 hY hadz
  by_cases hcc : cap = 1
  · obtain rfl : n = 0 := by omega
    subst hcc
    go_enter Tryz.func15, Tryz.ntmps15
    go_upto_region 2 with fail
    rw [HW1.out, HYE.out]
    have HDN : Hid (ns.drop 1 = []) := by unfold Hid; rw [List.drop_eq_nil_of_le (by have := HN.out; omega)]
    have HR : Hid (nestB ns = decide (z0 = -1)) := by unfold Hid; rw [HNB.out, HDN.out, HP0.out]; rfl
    rw [← HB1.out.cell hlb] at HX0
    go_wp2_with fail
    go_loopw [11] (fun c wr => c = .int .i64 0 ∧ wr = W1) (fun _ _ => 0)
    case atStart => exact ⟨rfl, rfl⟩
    case round =>
      obtain ⟨rfl, rfl⟩ := hrel
      by_cases hz : z0 = -1
      · have gz : (z0 == -1) = true := by simpa using hz
        have HR2 : Hid (nestB ns = true) := by unfold Hid; rw [HR.out]; exact decide_eq_true hz
        clear hz
        go_wp2_with fail
        go_ret
        exact ⟨by rw [HR2.out]; rfl, HB1.out⟩
      · have gz : (z0 == -1) = false := by simpa using hz
        have HR2 : Hid (nestB ns = false) := by unfold Hid; rw [HR.out]; exact decide_eq_false hz
        clear hz
        go_wp2_with fail
        go_ret
        exact ⟨by rw [HR2.out]; rfl, HB1.out⟩
  · go_enter Tryz.func15, Tryz.ntmps15
    go_upto_region 2 with fail
    rw [HW1.out, HYE.out]
    go_wp2_with fail
    go_loopw [3, 11] (fun ov c wr => ∃ (k : Nat) (nw : Value) (o : List Nat), k ≤ n ∧ c = .int .i64 k ∧ ov = nw ∧ Hid (Owned w.heap.size wr nw o) ∧ Hid (Below w.heap.size w wr) ∧ Hid (0 < o.length ∧ o.length ≤ 12 ∧ ∀ p ∈ o, p ≤ k) ∧ Hid (nestF ns [0] 0 (ns.drop 1) = nestF ns o k (ns.drop (k + 1)))) (fun _ c _ => n - (intOf c).toNat)
    case atStart => exact ⟨0, _, _, Nat.zero_le _, rfl, rfl, HO1.out, HB1.out, ⟨by decide, by decide, fun p hp => by simp at hp; omega⟩, rfl⟩
    case round =>
      obtain ⟨k, nw, o, hk, rfl, hnv, ho, hb, hop, hst⟩ := hrel
      have hnv2 := hnv.symm
      clear hnv
      subst hnv2
      obtain ⟨KA, kcap, hnf⟩ := ho.out.slice
      subst hnf
      obtain ⟨kn, hkn⟩ : ∃ kn, o.length = kn := ⟨_, rfl⟩
      have HKN := Lib.hid hkn
      have hknb : kn ≤ 12 := by rw [← hkn]; exact hop.out.2.1
      rw [hkn] at ho ⊢
      clear hkn
      by_cases hlt : k < n
      · obtain ⟨x, hx⟩ : ∃ x, ns[k + 1]? = some x := ⟨_, List.getElem?_eq_getElem (by have := HN.out; omega)⟩
        obtain ⟨u, hat, hua⟩ := HX.out (k + 1) x hx
        rw [← HAD.out k] at hat
        have hblk : (ad6.add (k * 6)).block < w.heap.size := by rw [HAD.out k, addBlock]; exact hlb
        obtain ⟨k0, k1, k2, k3, k4, k5⟩ := hat.of (w' := wr) (hb.out.block _ hblk)
        obtain ⟨UA, ucap, rfl, -⟩ := hua
        have HDR : Hid (ns.drop (k + 1) = x :: ns.drop (k + 1 + 1)) := by
          unfold Hid
          obtain ⟨h1, h2⟩ := List.getElem?_eq_some_iff.1 hx
          rw [List.drop_eq_getElem_cons h1, h2]
        obtain ⟨un, hun⟩ : ∃ un, x.2.2.2.2.1.length = un := ⟨_, rfl⟩
        rw [hun] at k4
        obtain ⟨a0, h0'⟩ : ∃ a : Int, x.1 = a := ⟨_, rfl⟩
        obtain ⟨a1, h1⟩ : ∃ a : Int, x.2.1 = a := ⟨_, rfl⟩
        obtain ⟨a2, h2⟩ : ∃ a, bts x.2.2.1 = a := ⟨_, rfl⟩
        obtain ⟨a3, h3⟩ : ∃ a, bts x.2.2.2.1 = a := ⟨_, rfl⟩
        obtain ⟨a5, h5⟩ : ∃ a, bts x.2.2.2.2.2 = a := ⟨_, rfl⟩
        rw [h0'] at k0
        rw [h1] at k1
        rw [h2] at k2
        rw [h3] at k3
        rw [h5] at k5
        have HX1 := Lib.hid h0'
        obtain ⟨Y4, hY4⟩ : ∃ Y, wr.heap.size = Y := ⟨_, rfl⟩
        obtain ⟨W4, hW4⟩ : ∃ W, wr.alloc (.cells #[.int .i64 a0, .int .i64 a1, .string a2, .string a3, .slice UA un ucap, .string a5] 32) = W := ⟨_, rfl⟩
        have hw4 : Below wr.heap.size wr W4 := by rw [← hW4]; exact (Below.refl _ _).alloc (Nat.le_refl _) _
        have y0 : W4.cell? ⟨Y4, 0, none⟩ = some (.int .i64 a0) := by rw [← hW4, ← hY4]; exact (Bk.new _ _ _).cell 0
        have O4 := Lib.hid (ho.out.below hw4)
        have B4 : Hid (Below w.heap.size w W4) := hb.out.trans (hw4.mono hb.out.size)
        have HIX := Lib.hid (index_any (.slice KA kn kcap) o a0 W4 O4.out.reads (by have := HKN.out; omega))
        have HW4 := Lib.hid hW4
        have HY4 := Lib.hid hY4
        clear hx hat hun h0' h1 h2 h3 h5 hW4 hY4 hw4 ho hb hblk
        go_upto_region 5 with fail
        rw [HW4.out, HY4.out]
        clear k0 k1 k2 k3 k4 k5
        cases hp : posI a0 o with
        | none =>
          have HPV := Lib.hid (posV_none hp)
          have HF := Lib.hid (nest_none (ns := ns) (o := o) (i := k) (x := x) (l := ns.drop (k + 1 + 1)) (by rw [HX1.out]; exact hp))
          have HR : Hid (nestB ns = false) := by unfold Hid; rw [HNB.out, hst.out, HDR.out, HF.out]; rfl
          clear hp
          go_wp2_with (go_at_call 36; refine HIX.out.mono ?_; rintro e w5 ⟨rfl, rfl⟩; rw [HPV.out])
          go_ret
          exact ⟨by rw [HR.out]; rfl, B4.out⟩
        | some q =>
          have HPV := Lib.hid (posV_some hp)
          obtain ⟨p, hpo, hpa⟩ := posI_get hp
          have hpk := hop.out.2.2 p (List.mem_of_getElem? hpo)
          have hqn : q < kn := by rw [← HKN.out]; exact (List.getElem?_eq_some_iff.1 hpo).1
          have hpt : x.1.toNat = p := by rw [HX1.out]; omega
          obtain ⟨xp, hxp⟩ : ∃ y, ns[p]? = some y := ⟨_, List.getElem?_eq_getElem (by have := HN.out; omega)⟩
          obtain ⟨up, hatp, hup⟩ := HX.out p xp hxp
          obtain ⟨-, -, -, -, -, e5⟩ := hatp.of (w' := W4) (B4.out.block _ (by rw [addBlock]; exact hlb))
          have htx : textAt ns p = xp.2.2.2.2.2 := text_some hxp
          have hpn : p < n + 1 := by omega
          subst hpa
          have hq0 : decide ((q : Int) < 0) = false := decide_eq_false (by omega)
          have hqb : (q : Int) ≤ 12 := by omega
          have hks : k + 1 ≤ n := hlt
          by_cases hq12 : q + 1 = 12
          · have HF := Lib.hid (nest_bad (ns := ns) (o := o) (i := k) (x := x) (l := ns.drop (k + 1 + 1)) (by rw [HX1.out]; exact hp) (.inl hq12))
            have HR : Hid (nestB ns = false) := by unfold Hid; rw [HNB.out, hst.out, HDR.out, HF.out]; rfl
            have g12 : ((q : Int) + 1 == 12) = true := by simp; omega
            clear hp hpo hpt hxp hatp hup htx hq12
            go_wp2_with (go_at_call 36; refine HIX.out.mono ?_; rintro e w5 ⟨rfl, rfl⟩; rw [HPV.out])
            go_ret
            exact ⟨by rw [HR.out]; rfl, B4.out⟩
          · have g12 : ((q : Int) + 1 == 12) = false := by simp; omega
            by_cases hte : xp.2.2.2.2.2 = []
            · have HF := Lib.hid (nest_good (ns := ns) (o := o) (i := k) (x := x) (l := ns.drop (k + 1 + 1)) (by rw [HX1.out]; exact hp) (by rw [hpt, htx, hte]; simp; omega))
              have gte : (bts xp.2.2.2.2.2).toList.isEmpty = true := by rw [bts_empty]; exact decide_eq_true hte
              obtain ⟨t5, ht5⟩ : ∃ a, bts xp.2.2.2.2.2 = a := ⟨_, rfl⟩
              rw [ht5] at gte e5
              have hcut := O4.out.cut (j := q + 1) (by have := HKN.out; omega) hop.out.1
              obtain ⟨hcut1, hcut2, hcut3⟩ := hcut
              have hq11 : q + 1 < 12 := by omega
              clear hp hpo hpt hxp hatp hup htx hq12 hte ht5
              have hkl : (o.take (q + 1)).length ≤ 2000000000 := by rw [List.length_take]; omega
              have hzz := B4.out.size
              have hkz : (k : Int) + 1 = ((k + 1 : Nat) : Int) := by omega
              have HKZ := Lib.hid hkz
              have HC1 := Lib.hid hcut1
              have HKL := Lib.hid hkl
              have HPU : Hid (0 < (o.take (q + 1) ++ [k + 1]).length ∧ (o.take (q + 1) ++ [k + 1]).length ≤ 12 ∧ ∀ p ∈ o.take (q + 1) ++ [k + 1], p ≤ k + 1) := by
                refine ⟨by rw [List.length_append]; simp, by rw [List.length_append, List.length_take, List.length_singleton]; omega, fun r hr => ?_⟩
                rcases List.mem_append.1 hr with hr | hr
                · have := hop.out.2.2 r (List.mem_of_mem_take hr); omega
                · rw [List.mem_singleton] at hr; omega
              have HS2 : Hid (nestF ns [0] 0 (ns.drop 1) = nestF ns (o.take (q + 1) ++ [k + 1]) (k + 1) (ns.drop (k + 1 + 1))) := by unfold Hid; rw [hst.out, HDR.out, HF.out]
              clear hkz hcut1 hkl
              go_wp2_with (first | (go_at_call 36; refine HIX.out.mono ?_; rintro e w5 ⟨rfl, rfl⟩; rw [HPV.out]) | (at_builtin; refine push_int rfl _ _ rfl w.heap.size (.slice KA (q + 1) kcap) (o.take (q + 1)) (k + 1) _ HKZ.out _ rfl HC1.out rfl HKL.out hzz ?_))
              intro v9 w9 o9 b9 k9
              have O9 := Lib.hid o9
              have B9 : Hid (Below w.heap.size w w9) := B4.out.trans b9
              clear o9 b9 k9 hzz
              go_wp2_with fail
              go_roundw
              case rel => exact ⟨k + 1, _, _, by omega, by go_num, rfl, O9, B9, HPU, HS2⟩
              case measure => simp [intOf]; omega
            · have HF := Lib.hid (nest_bad (ns := ns) (o := o) (i := k) (x := x) (l := ns.drop (k + 1 + 1)) (by rw [HX1.out]; exact hp) (.inr (by rw [hpt, htx]; exact hte)))
              have HR : Hid (nestB ns = false) := by unfold Hid; rw [HNB.out, hst.out, HDR.out, HF.out]; rfl
              have gte : (bts xp.2.2.2.2.2).toList.isEmpty = false := by rw [bts_empty]; exact decide_eq_false hte
              obtain ⟨t5, ht5⟩ : ∃ a, bts xp.2.2.2.2.2 = a := ⟨_, rfl⟩
              rw [ht5] at gte e5
              clear hp hpo hpt hxp hatp hup htx hq12 hte ht5
              go_wp2_with (go_at_call 36; refine HIX.out.mono ?_; rintro e w5 ⟨rfl, rfl⟩; rw [HPV.out])
              go_ret
              exact ⟨by rw [HR.out]; rfl, B4.out⟩
      · have HDN : Hid (ns.drop (k + 1) = []) := by unfold Hid; rw [List.drop_eq_nil_of_le (by have := HN.out; omega)]
        have HR : Hid (nestB ns = decide (z0 = -1)) := by unfold Hid; rw [HNB.out, hst.out, HDN.out, HP0.out]; rfl
        rw [← hb.out.cell hlb] at HX0
        by_cases hz : z0 = -1
        · have gz : (z0 == -1) = true := by simpa using hz
          have HR2 : Hid (nestB ns = true) := by unfold Hid; rw [HR.out]; exact decide_eq_true hz
          clear hz
          go_wp2_with fail
          go_ret
          exact ⟨by rw [HR2.out]; rfl, hb.out⟩
        · have gz : (z0 == -1) = false := by simpa using hz
          have HR2 : Hid (nestB ns = false) := by unfold Hid; rw [HR.out]; exact decide_eq_false hz
          clear hz
          go_wp2_with fail
          go_ret
          exact ⟨by rw [HR2.out]; rfl, hb.out⟩
end Go.Proofs.YtbkfmbkamocllaaGreatDoor
/-
  package canon: a name.
-/
namespace Go.Proofs.YtbkfmbkamocllaaGreatDoor
open Go.RowKit Tk Tr Cn

/-- What a name may begin with; what may stand within it. -/
abbrev letC : ByteArray := ⟨#[65, 66, 67, 68, 69, 70, 71, 72, 73, 74, 75, 76, 77, 78, 79, 80, 81, 82, 83, 84, 85, 86, 87, 88, 89, 90, 97, 98, 99, 100, 101, 102, 103, 104, 105, 106, 107, 108, 109, 110, 111, 112, 113, 114, 115, 116, 117, 118, 119, 120, 121, 122, 95]⟩
abbrev witC : ByteArray := ⟨#[65, 66, 67, 68, 69, 70, 71, 72, 73, 74, 75, 76, 77, 78, 79, 80, 81, 82, 83, 84, 85, 86, 87, 88, 89, 90, 97, 98, 99, 100, 101, 102, 103, 104, 105, 106, 107, 108, 109, 110, 111, 112, 113, 114, 115, 116, 117, 118, 119, 120, 121, 122, 95, 48, 49, 50, 51, 52, 53, 54, 55, 56, 57, 45, 46]⟩
theorem let_beg (c : UInt8) : decide (0 ≤ Lib.indexByte letC.data.toList c) = beg c := by
  have H : ∀ k : Fin 256, decide (0 ≤ Lib.indexByte letC.data.toList (UInt8.ofNat k.val)) = beg (UInt8.ofNat k.val) := by decide +kernel
  have h := H ⟨c.toNat, c.toNat_lt⟩
  simpa using h
theorem wit_wi (c : UInt8) : witC.data.toList.contains c = wi c := by
  have H : ∀ k : Fin 256, witC.data.toList.contains (UInt8.ofNat k.val) = wi (UInt8.ofNat k.val) := by decide +kernel
  have h := H ⟨c.toNat, c.toNat_lt⟩
  simpa using h
theorem wit_ascii : ∀ (j : Nat) b, witC.data.toList[j]? = some b → b.toNat < 128 := ascii_of_all (by decide +kernel)
theorem dw_nil {p : UInt8 → Bool} : ∀ l : List UInt8, (∀ b ∈ l, p b = true) → l.dropWhile p = []
  | [], _ => rfl
  | a :: l, h => by
    rw [List.dropWhile_cons, h a List.mem_cons_self]
    exact dw_nil l (fun b hb => h b (List.mem_cons_of_mem _ hb))
theorem trim_empty (l cs : List UInt8) : Lib.trimS l cs = [] ↔ ∀ b ∈ l, cs.contains b = true := by
  unfold Lib.trimS Lib.trimLeftS Lib.trimRightS
  constructor
  · intro h
    have h1 : ∀ b ∈ (l.reverse.dropWhile (cs.contains ·)).reverse, cs.contains b = true := by
      have := List.takeWhile_append_dropWhile (p := (cs.contains ·)) (l := (l.reverse.dropWhile (cs.contains ·)).reverse)
      rw [h, List.append_nil] at this
      rw [← this]
      exact fun b hb => List.all_eq_true.1 List.all_takeWhile b hb
    have h2 : l.reverse.dropWhile (cs.contains ·) = [] := by
      cases hd : l.reverse.dropWhile (cs.contains ·) with
      | nil => rfl
      | cons a t =>
        have h3 := h1 a (by rw [hd]; simp)
        have h4 := List.head?_dropWhile_not (cs.contains ·) l.reverse
        rw [hd] at h4
        simp only [List.head?_cons] at h4
        rw [h3] at h4
        cases h4
    intro b hb
    have := List.takeWhile_append_dropWhile (p := (cs.contains ·)) (l := l.reverse)
    rw [h2, List.append_nil] at this
    have hb2 : b ∈ l.reverse := List.mem_reverse.2 hb
    rw [← this] at hb2
    exact List.all_eq_true.1 List.all_takeWhile b hb2
  · intro h
    have e : l.reverse.dropWhile (cs.contains ·) = [] := dw_nil _ (fun b hb => h b (List.mem_reverse.1 hb))
    rw [e]
    rfl
theorem trim_wi (l : List UInt8) : (⟨(Lib.trimS l witC.data.toList).toArray⟩ : ByteArray).toList.isEmpty = l.all wi := by
  rw [ByteArray.toList_mk, Bool.eq_iff_iff, List.isEmpty_iff, trim_empty, List.all_eq_true]
  constructor
  · intro h b hb
    rw [← wit_wi]
    exact h b hb
  · intro h b hb
    rw [wit_wi]
    exact h b hb
set_option maxHeartbeats 1000000 in
set_option maxRecDepth 100000 in
theorem cname_any (s : ByteArray) (w : World) (hs : s.size ≤ 140737488355328) :
    Calls Tryz.prog 38 #[.string s] w fun e w' => e = .returned (.bool (nameT s.data.toList)) ∧ Below w.heap.size w w' := by
  have HT := Lib.hid (fun (W : World) => Any.strings_Trim_laid Tryz.lays160 (by kernel_rfl) s witC W (by omega) (by decide) wit_ascii)
  have HTW := Lib.hid (trim_wi s.data.toList)
  have HNT : Hid (nameT s.data.toList = (s.data.toList.all wi && (match s.data.toList with | c :: _ => beg c | [] => false))) := rfl
  by_cases h0 : s.size = 0
  · have hd : s.data.toList = [] := List.eq_nil_of_length_eq_zero (by rw [← Lib.size_eq]; exact h0)
    have HR : Hid (nameT s.data.toList = false) := by unfold Hid; rw [hd]; rfl
    have g0 : s.toList.isEmpty = true := by
      rw [show s = (⟨s.data.toList.toArray⟩ : ByteArray) from rfl, ByteArray.toList_mk, hd]
      rfl
    clear hd h0
    go_enter Tryz.func38, Tryz.ntmps38
    go_wp2_with fail
    go_ret
    exact ⟨by rw [HR.out]; rfl, Below.refl _ _⟩
  · have hpos : 0 < s.size := by omega
    obtain ⟨c, hc⟩ : ∃ c, s[0]'hpos = c := ⟨_, rfl⟩
    obtain ⟨t, ht⟩ : ∃ t, s.data.toList = c :: t := by
      cases hd : s.data.toList with
      | nil => rw [Lib.size_eq, hd] at hpos; cases hpos
      | cons a t =>
        refine ⟨t, ?_⟩
        have := Lib.data_getElem? s 0 hpos
        rw [hd, hc] at this
        simp only [List.getElem?_cons_zero, Option.some.injEq] at this
        rw [this]
    have he : s.extract 0 1 = ⟨#[c]⟩ := by
      rw [show s = (⟨s.data.toList.toArray⟩ : ByteArray) from rfl, ht]
      apply ByteArray.ext
      rw [ByteArray.data_extract, List.extract_toArray, List.extract_eq_take_drop]
      rfl
    have g0 : s.toList.isEmpty = false := by
      rw [show s = (⟨s.data.toList.toArray⟩ : ByteArray) from rfl, ByteArray.toList_mk, ht]
      rfl
    have HR : Hid (nameT s.data.toList = (s.data.toList.all wi && beg c)) := by unfold Hid nameT; rw [ht]
    have HC := Lib.hid (fun (W : World) => Tryz.strings_Contains_one letC c W)
    rw [let_beg c] at HC
    obtain ⟨tr, htr⟩ : ∃ tr : ByteArray, (⟨(Lib.trimS s.data.toList witC.data.toList).toArray⟩ : ByteArray) = tr := ⟨_, rfl⟩
    rw [htr] at HT HTW
    clear htr ht hc h0
    cases hb : beg c with
    | false =>
      rw [hb] at HC HR
      have HR2 : Hid (nameT s.data.toList = false) := by unfold Hid; rw [HR.out, Bool.and_false]
      clear hb
      go_enter Tryz.func38, Tryz.ntmps38
      go_wp2_with (first | (go_at_call 58; refine (HC.out _).mono ?_; rintro e w1 ⟨rfl, rfl⟩))
      go_ret
      exact ⟨by rw [HR2.out]; rfl, Below.refl _ _⟩
    | true =>
      rw [hb] at HC HR
      cases ha : s.data.toList.all wi with
      | false =>
        have HR2 : Hid (nameT s.data.toList = false) := by unfold Hid; rw [HR.out, ha]; rfl
        have g1 : tr.toList.isEmpty = false := by rw [HTW.out, ha]
        clear hb ha
        go_enter Tryz.func38, Tryz.ntmps38
        go_wp2_with (first | (go_at_call 58; refine (HC.out _).mono ?_; rintro e w1 ⟨rfl, rfl⟩) | (go_at_call 59; refine (HT.out _).mono ?_; rintro e w2 ⟨rfl, b2⟩))
        go_ret
        exact ⟨by rw [HR2.out]; rfl, b2⟩
      | true =>
        have HR2 : Hid (nameT s.data.toList = true) := by unfold Hid; rw [HR.out, ha]; rfl
        have g1 : tr.toList.isEmpty = true := by rw [HTW.out, ha]
        clear hb ha
        go_enter Tryz.func38, Tryz.ntmps38
        go_wp2_with (first | (go_at_call 58; refine (HC.out _).mono ?_; rintro e w1 ⟨rfl, rfl⟩) | (go_at_call 59; refine (HT.out _).mono ?_; rintro e w2 ⟨rfl, b2⟩))
        go_ret
        exact ⟨by rw [HR2.out]; rfl, b2⟩
end Go.Proofs.YtbkfmbkamocllaaGreatDoor
/-
  package canon: attributes that an element can have: a question asked of each attribute, apart.
-/
namespace Go.Proofs.YtbkfmbkamocllaaGreatDoor
open Go.RowKit Tk Tr Cn

theorem bts_eqC (x y : List UInt8) : ((bts x).toList == (bts y).toList) = decide (x = y) := by
  rw [ByteArray.toList_mk, ByteArray.toList_mk, Bool.eq_iff_iff]
  simp
theorem bts_eqL (x y : List UInt8) : ((bts x).toList == y) = decide (x = y) := by
  rw [ByteArray.toList_mk, Bool.eq_iff_iff]
  simp
theorem bts_size (x : List UInt8) : (bts x).size = x.length := by rw [Lib.size_eq]
/-- A question that may be asked of an attribute. -/
def AskA (w : World) (u : Value) (q : Att → Bool) : Prop := ∃ (F : FuncId) (cb : Array Value), u = .func (.func F) #[] cb ∧ (∀ args W, (callFunc F args).run Tryz.prog W = .ok (.enter F args) W) ∧
  ∀ (a : Att) W, Below w.heap.size w W → Calls Tryz.prog F (#[agA a] ++ cb) W fun e w' => e = .returned (.bool (q a)) ∧ Below W.heap.size W w'
set_option maxHeartbeats 400000 in
theorem apart1_any (bx : Nat) (n : List UInt8) (b : Att) (W : World) (hbx : W.cell? ⟨bx, 0, none⟩ = some (.string (bts n))) (hlt : bx < W.heap.size) :
    Calls Tryz.prog 60 (#[agA b] ++ #[.pointer (some ⟨bx, 0, none⟩)]) W fun e w' => e = .returned (.bool (decide (b.1 = n))) ∧ Below W.heap.size W w' := by
  have hq := bts_eqC b.1 n
  obtain ⟨x, hx⟩ : ∃ x, bts b.1 = x := ⟨_, rfl⟩
  obtain ⟨x2, hx2⟩ : ∃ x, bts b.2 = x := ⟨_, rfl⟩
  obtain ⟨y, hy⟩ : ∃ y, bts n = y := ⟨_, rfl⟩
  obtain ⟨d, hd⟩ : ∃ d, decide (b.1 = n) = d := ⟨_, rfl⟩
  unfold agA
  rw [hx, hx2, hd]
  rw [hy] at hbx
  rw [hx, hy, hd] at hq
  have hb1 : Below W.heap.size W (W.alloc (.cells #[.string x, .string x2] 45)) := (Below.refl _ _).alloc (Nat.le_refl _) _
  have hbx2 : (W.alloc (.cells #[.string x, .string x2] 45)).cell? ⟨bx, 0, none⟩ = some (.string y) := (hb1.cell (p := ⟨bx, 0, none⟩) hlt).trans hbx
  have HB1 := Lib.hid hb1
  clear hx hx2 hy hd hb1 hbx
  go_enter Tryz.func60, Tryz.ntmps60
  go_wp2_with fail
  go_ret
  exact ⟨rfl, HB1.out⟩
theorem anyA_hit {l : List Att} {q : Att → Bool} {k : Nat} {a : Att} (h : l[k]? = some a) (hq : q a = true) : l.any q = true := List.any_eq_true.2 ⟨a, List.mem_of_getElem? h, hq⟩
theorem anyA_miss {l : List Att} {q : Att → Bool} (h : ∀ (j : Nat) (a : Att), l[j]? = some a → q a = false) : l.any q = false := by
  rw [List.any_eq_false]
  intro a ha
  obtain ⟨j, hj⟩ := List.mem_iff_getElem?.1 ha
  rw [h j a hj]
  simp
set_option maxHeartbeats 1000000 in
theorem cindexA_any (v u : Value) (l : List Att) (q : Att → Bool) (w : World) (hv : ReadA w v l) (hl : l.length ≤ 1000000) (hp : AskA w u q) :
    Calls Tryz.prog 86 #[v, u] w fun e w' => (∃ z : Int, e = .returned (.int .i64 z) ∧ decide (z ≥ 0) = l.any q) ∧ Below w.heap.size w w' := by
  obtain ⟨F, cb, rfl, eg, hp⟩ := hp
  obtain ⟨A, cap, rfl, hx⟩ := hv
  have HX := Lib.hid hx
  have HP := Lib.hid hp
  have HH := Lib.hid (fun (k : Nat) (a : Att) (h : l[k]? = some a) (h2 : q a = true) => anyA_hit h h2)
  have HM := Lib.hid (fun (h : ∀ (j : Nat) (a : Att), l[j]? = some a → q a = false) => anyA_miss h)
  clear hx hp
  go_enter Tryz.func86, Tryz.ntmps86
  go_wp2_with fail
  go_loopw [8] (fun i wr => ∃ (k : Nat), k ≤ l.length ∧ i = .int .i64 k ∧ Hid (∀ (j : Nat) (a : Att), j < k → l[j]? = some a → q a = false) ∧ Below w.heap.size w wr) (fun i _ => l.length - (intOf i).toNat)
  case atStart => exact ⟨0, Nat.zero_le _, rfl, Lib.hid (fun j a h => absurd h (Nat.not_lt_zero _)), Below.refl _ _⟩
  case round =>
    obtain ⟨k, hk, rfl, hno, hb⟩ := hrel
    have hsw := hb.size
    by_cases hlt : k < l.length
    · obtain ⟨ad, rfl, hlb, hc⟩ := HX.out (by omega)
      obtain ⟨c, hcx⟩ : ∃ c, l[k]? = some c := ⟨_, List.getElem?_eq_getElem hlt⟩
      obtain ⟨c0, c1⟩ := hc k c hcx
      rw [← hb.cell (p := ad.add (k * 2)) (by rw [addBlock]; exact hlb)] at c0
      rw [← hb.cell (p := ⟨(ad.add (k * 2)).block, (ad.add (k * 2)).off + 1, none⟩) (by show (ad.add (k * 2)).block < _; rw [addBlock]; exact hlb)] at c1
      have HC := Lib.hid hcx
      have HQ := Lib.hid (HP.out c wr hb)
      obtain ⟨y0, h0⟩ : ∃ a, bts c.1 = a := ⟨_, rfl⟩
      obtain ⟨y1, h1⟩ : ∃ a, bts c.2 = a := ⟨_, rfl⟩
      unfold agA at HQ
      rw [h0] at c0 HQ
      rw [h1] at c1 HQ
      clear hc hcx h0 h1
      go_wp2_with fail
      refine HQ.out.mono ?_
      rintro e w2 ⟨rfl, b2⟩
      have hb2 : Below w.heap.size w w2 := hb.trans (b2.mono hsw)
      cases hq : q c with
      | true =>
        have hf := Lib.hid (HH.out k c HC.out hq)
        clear hq b2
        go_wp2_with fail
        go_ret
        exact ⟨⟨_, rfl, by rw [hf.out]; simp⟩, hb2⟩
      | false =>
        have hno2 : Hid (∀ (j : Nat) (a : Att), j < k + 1 → l[j]? = some a → q a = false) := Lib.hid (fun j a hj ha => by
          rcases Nat.lt_or_ge j k with h | h
          · exact hno.out j a h ha
          · obtain rfl : j = k := by omega
            rw [HC.out] at ha
            cases ha
            exact hq)
        clear hq b2
        go_wp2_with fail
        go_roundw
        case rel => exact ⟨k + 1, by omega, by go_num, hno2, hb2⟩
        case measure => simp [intOf]; omega
    · have hf := Lib.hid (HM.out (fun j a ha => hno.out j a (by have := (List.getElem?_eq_some_iff.1 ha).1; omega) ha))
      go_wp2_with fail
      go_ret
      exact ⟨⟨_, rfl, by rw [hf.out]; simp⟩, hb⟩
set_option maxHeartbeats 400000 in
theorem ccontainsA_any (v u : Value) (l : List Att) (q : Att → Bool) (w : World) (hv : ReadA w v l) (hl : l.length ≤ 1000000) (hp : AskA w u q) :
    Calls Tryz.prog 61 #[v, u] w fun e w' => e = .returned (.bool (l.any q)) ∧ Below w.heap.size w w' := by
  have HI := Lib.hid (cindexA_any v u l q w hv hl hp)
  obtain ⟨A, cap, rfl, hx⟩ := hv
  obtain ⟨F, cb, rfl, eg, hp⟩ := hp
  obtain ⟨r, hr⟩ : ∃ r, l.any q = r := ⟨_, rfl⟩
  rw [hr] at HI ⊢
  clear hx hp hr eg
  go_enter Tryz.func61, Tryz.ntmps61
  go_wp2_with (go_at_call 86; refine HI.out.mono ?_; rintro e w1 ⟨⟨z, rfl, hz⟩, hb⟩)
  go_ret
  exact ⟨rfl, hb⟩
theorem okA_eq {l : List Att} {k : Nat} {a : Att} (h : l[k]? = some a) : okA l k = (nameT a.1 && !decide (a.1 = xmlnsL) && Tx.valid a.2 && !(l.take k).any (fun b => decide (b.1 = a.1))) := by unfold okA; rw [h]
theorem apart_all {l : List Att} (h10 : l.length < 10) (h : ∀ j, j < l.length → okA l j = true) : apartB l = true := by
  unfold apartB
  rw [Bool.and_eq_true, decide_eq_true_eq, List.all_eq_true]
  exact ⟨h10, fun i hi => h i (List.mem_range.1 hi)⟩
theorem apart_not {l : List Att} {k : Nat} (hk : k < l.length) (h : okA l k = false) : apartB l = false := by
  unfold apartB
  rw [Bool.and_eq_false_iff]
  right
  rw [List.all_eq_false]
  exact ⟨k, List.mem_range.2 hk, by rw [h]; simp⟩
theorem ReadC.take {w : World} {A : Option Addr} {n cap : Nat} {l : List Att} (h : ReadC w (.slice A n cap) l) {k : Nat} (hk : k ≤ l.length) : ReadA w (.slice A k cap) (l.take k) := by
  obtain ⟨A', cap', e, h1, h2, h3⟩ := h
  injection e with e1 e2 e3
  subst e1 e3
  have hl : (l.take k).length = k := by rw [List.length_take]; omega
  refine ⟨A, cap, by rw [hl], fun h0 => ?_⟩
  rw [hl] at h0
  obtain ⟨ad, rfl, hb, hc⟩ := h3 (by omega)
  refine ⟨ad, rfl, hb, fun i a hi => hc i a ?_⟩
  have := (List.getElem?_eq_some_iff.1 hi).1
  rwa [List.getElem?_take_of_lt (by omega)] at hi
set_option maxHeartbeats 4000000 in
set_option maxRecDepth 100000 in
theorem apart_any (v : Value) (l : List Att) (w : World) (hT : Tabs w) (hv : ReadC w v l) (hl : l.length ≤ 1000000000) (hsz : ∀ a ∈ l, a.1.length ≤ 140737488355328 ∧ a.2.length ≤ 140737488355328) :
    Calls Tryz.prog 39 #[v] w fun e w' => e = .returned (.bool (apartB l)) ∧ Below w.heap.size w w' := by
  have HV := Lib.hid hv
  obtain ⟨A, cap, rfl, hcap, hmax, hx⟩ := hv
  have HX := Lib.hid hx
  have HTB := Lib.hid hT
  have HSZ := Lib.hid hsz
  have HN10 := Lib.hid (fun (h : l.length < 10) h2 => apart_all h h2)
  have HNOT := Lib.hid (fun (k : Nat) (h : k < l.length) h2 => apart_not h h2)
  obtain ⟨n, hn⟩ : ∃ n, l.length = n := ⟨_, rfl⟩
  have HNL := Lib.hid hn
  rw [hn] at hcap hl HX HV HN10 HNOT ⊢
  clear hx hT hsz hmax
  by_cases h10 : n < 10
  · have g10 : decide ((n : Int) ≥ 10) = false := decide_eq_false (by omega)
    have eg : ∀ args w, (callFunc 60 args).run Tryz.prog w = .ok (.enter 60 args) w := Go.Proofs.enters_of Tryz.func60 (by kernel_rfl) rfl
    have HEG := Lib.hid eg
    clear hn eg
    go_enter Tryz.func39, Tryz.ntmps39
    go_wp2_with fail
    go_loopw [11] (fun c wr => ∃ (k : Nat), k ≤ n ∧ c = .int .i64 k ∧ Hid (∀ j, j < k → okA l j = true) ∧ Hid (Below w.heap.size w wr)) (fun c _ => n - (intOf c).toNat)
    case atStart => exact ⟨0, Nat.zero_le _, rfl, Lib.hid (fun j h => absurd h (Nat.not_lt_zero _)), Below.refl _ _⟩
    case round =>
      obtain ⟨k, hk, rfl, hok, hb⟩ := hrel
      by_cases hlt : k < n
      · obtain ⟨ad, rfl, hlb, hc⟩ := HX.out (by omega)
        obtain ⟨a, ha⟩ : ∃ a, l[k]? = some a := ⟨_, List.getElem?_eq_getElem (by have := HNL.out; omega)⟩
        obtain ⟨c0, c1⟩ := hc k a ha
        rw [← hb.out.cell (p := ad.add (k * 2)) (by rw [addBlock]; exact hlb)] at c0
        rw [← hb.out.cell (p := ⟨(ad.add (k * 2)).block, (ad.add (k * 2)).off + 1, none⟩) (by show (ad.add (k * 2)).block < _; rw [addBlock]; exact hlb)] at c1
        have HOK := Lib.hid (okA_eq ha)
        have hx0 := bts_eqL a.1 xmlnsL
        unfold xmlnsL at hx0
        obtain ⟨s0, s1⟩ := HSZ.out a (List.mem_of_getElem? ha)
        obtain ⟨y0, h0⟩ : ∃ y, bts a.1 = y := ⟨_, rfl⟩
        obtain ⟨y1, h1⟩ : ∃ y, bts a.2 = y := ⟨_, rfl⟩
        have hd0 : y0.data.toList = a.1 := by rw [← h0]
        have hd1 : y1.data.toList = a.2 := by rw [← h1]
        have hz0 : y0.size ≤ 140737488355328 := by rw [← h0, bts_size]; exact s0
        have hz1 : y1.size ≤ 140737488355328 := by rw [← h1, bts_size]; exact s1
        rw [h0] at c0 hx0
        rw [h1] at c1
        obtain ⟨Y5, hY5⟩ : ∃ Y, wr.heap.size = Y := ⟨_, rfl⟩
        obtain ⟨W5, hW5⟩ : ∃ W, wr.alloc (.cells #[.string y0, .string y1] 45) = W := ⟨_, rfl⟩
        have hw5 : Below wr.heap.size wr W5 := by rw [← hW5]; exact (Below.refl _ _).alloc (Nat.le_refl _) _
        have q0 : W5.cell? ⟨Y5, 0, none⟩ = some (.string y0) := by rw [← hW5, ← hY5]; exact (Bk.new _ _ _).cell 0
        have q1 : W5.cell? ⟨Y5, 1, none⟩ = some (.string y1) := by rw [← hW5, ← hY5]; exact (Bk.new _ _ _).cell 1
        have hy5 : Y5 < W5.heap.size := by rw [← hW5, ← hY5]; simp
        have B5 : Hid (Below w.heap.size w W5) := hb.out.trans (hw5.mono hb.out.size)
        have HQ0 := Lib.hid q0
        have HQ1 := Lib.hid q1
        have HY5 := Lib.hid hy5
        have HNA := Lib.hid (cname_any y0 W5 hz0)
        rw [hd0] at HNA
        have HVA := Lib.hid (fun (W : World) (h : Below W5.heap.size W5 W) => valid_any y1 W (HTB.out.below ((B5.out.trans (h.mono B5.out.size)))) hz1)
        rw [hd1] at HVA
        have HCA := Lib.hid (fun (W : World) (h : Below W5.heap.size W5 W) => ccontainsA_any (.slice (some ad) k cap) (.func (.func 60) #[] #[.pointer (some ⟨Y5, 0, none⟩)]) (l.take k) (fun b => decide (b.1 = a.1)) W
          ((HV.out.below (B5.out.trans (h.mono B5.out.size))).take (by have := HNL.out; omega)) (by rw [List.length_take]; omega)
          ⟨_, _, rfl, HEG.out, fun b W2 hW2 => apart1_any Y5 a.1 b W2 (by rw [hW2.cell (p := ⟨Y5, 0, none⟩) (Nat.lt_of_lt_of_le HY5.out h.size), h.cell (p := ⟨Y5, 0, none⟩) HY5.out, h0]; exact HQ0.out) (Nat.lt_of_lt_of_le (Nat.lt_of_lt_of_le HY5.out h.size) hW2.size)⟩)
        have HW5 := Lib.hid hW5
        have HYE5 := Lib.hid hY5
        have hkc : k ≤ cap := by omega
        clear hc ha s0 s1 h0 h1 hd0 hd1 hz0 hz1 hY5 hW5 hw5 hy5 hb
        go_upto_region 6 with fail
        rw [HW5.out, HYE5.out]
        clear c0 c1
        cases hna : nameT a.1 with
        | false =>
          rw [hna] at HNA
          have HR : Hid (apartB l = false) := HNOT.out k hlt (by rw [HOK.out, hna]; rfl)
          clear hna
          go_wp2_with (go_at_call 38; refine HNA.out.mono ?_; rintro e w6 ⟨rfl, b6⟩; have r0 := (b6.cell (p := ⟨Y5, 0, none⟩) HY5.out).trans HQ0.out; have r1 := (b6.cell (p := ⟨Y5, 1, none⟩) HY5.out).trans HQ1.out)
          go_ret
          exact ⟨by rw [HR.out]; rfl, B5.out.trans (b6.mono B5.out.size)⟩
        | true =>
          rw [hna] at HNA
          by_cases hxm : a.1 = xmlnsL
          · have HR : Hid (apartB l = false) := HNOT.out k hlt (by rw [HOK.out, decide_eq_true hxm]; simp)
            have gx : (y0.toList == [120, 109, 108, 110, 115]) = true := by rw [hx0]; exact decide_eq_true hxm
            clear hna hxm hx0
            go_wp2_with (go_at_call 38; refine HNA.out.mono ?_; rintro e w6 ⟨rfl, b6⟩; have r0 := (b6.cell (p := ⟨Y5, 0, none⟩) HY5.out).trans HQ0.out; have r1 := (b6.cell (p := ⟨Y5, 1, none⟩) HY5.out).trans HQ1.out)
            go_ret
            exact ⟨by rw [HR.out]; rfl, B5.out.trans (b6.mono B5.out.size)⟩
          · have gx : (y0.toList == [120, 109, 108, 110, 115]) = false := by rw [hx0]; exact decide_eq_false hxm
            have hxd : decide (a.1 = xmlnsL) = false := decide_eq_false hxm
            cases hva : Tx.valid a.2 with
            | false =>
              rw [hva] at HVA
              have HR : Hid (apartB l = false) := HNOT.out k hlt (by rw [HOK.out, hva]; simp)
              clear hna hxm hx0 hva hxd
              go_wp2_with (first | (go_at_call 38; refine HNA.out.mono ?_; rintro e w6 ⟨rfl, b6⟩; have r0 := (b6.cell (p := ⟨Y5, 0, none⟩) HY5.out).trans HQ0.out; have r1 := (b6.cell (p := ⟨Y5, 1, none⟩) HY5.out).trans HQ1.out) | (go_at_call 24; refine (HVA.out _ b6).mono ?_; rintro e w7 ⟨rfl, b7⟩))
              go_ret
              exact ⟨by rw [HR.out]; rfl, B5.out.trans ((b6.trans (b7.mono b6.size)).mono B5.out.size)⟩
            | true =>
              rw [hva] at HVA
              cases hca : (l.take k).any (fun b => decide (b.1 = a.1)) with
              | true =>
                rw [hca] at HCA
                have HR : Hid (apartB l = false) := HNOT.out k hlt (by rw [HOK.out, hca]; simp)
                clear hna hxm hx0 hva hxd hca
                go_wp2_with (first | (go_at_call 38; refine HNA.out.mono ?_; rintro e w6 ⟨rfl, b6⟩; have r0 := (b6.cell (p := ⟨Y5, 0, none⟩) HY5.out).trans HQ0.out; have r1 := (b6.cell (p := ⟨Y5, 1, none⟩) HY5.out).trans HQ1.out) | (go_at_call 24; refine (HVA.out _ b6).mono ?_; rintro e w7 ⟨rfl, b7⟩) | (go_at_call 61; refine (HCA.out _ (b6.trans (b7.mono b6.size))).mono ?_; rintro e w8 ⟨rfl, b8⟩))
                go_ret
                exact ⟨by rw [HR.out]; rfl, B5.out.trans ((b6.trans ((b7.trans (b8.mono b7.size)).mono b6.size)).mono B5.out.size)⟩
              | false =>
                rw [hca] at HCA
                have HOK2 : Hid (∀ j, j < k + 1 → okA l j = true) := Lib.hid (fun j hj => by
                  rcases Nat.lt_or_ge j k with h | h
                  · exact hok.out j h
                  · obtain rfl : j = k := by omega
                    rw [HOK.out, hna, hxd, hva, hca]
                    rfl)
                clear hna hxm hx0 hva hxd hca
                go_wp2_with (first | (go_at_call 38; refine HNA.out.mono ?_; rintro e w6 ⟨rfl, b6⟩; have r0 := (b6.cell (p := ⟨Y5, 0, none⟩) HY5.out).trans HQ0.out; have r1 := (b6.cell (p := ⟨Y5, 1, none⟩) HY5.out).trans HQ1.out) | (go_at_call 24; refine (HVA.out _ b6).mono ?_; rintro e w7 ⟨rfl, b7⟩) | (go_at_call 61; refine (HCA.out _ (b6.trans (b7.mono b6.size))).mono ?_; rintro e w8 ⟨rfl, b8⟩))
                have B8 : Hid (Below w.heap.size w w8) := B5.out.trans ((b6.trans ((b7.trans (b8.mono b7.size)).mono b6.size)).mono B5.out.size)
                go_roundw
                case rel => exact ⟨k + 1, by omega, by go_num, HOK2, B8⟩
                case measure => simp [intOf]; omega
      · have HR : Hid (apartB l = true) := HN10.out h10 (fun j hj => hok.out j (by omega))
        go_wp2_with fail
        go_ret
        exact ⟨by rw [HR.out]; rfl, hb.out⟩
  · have g10 : decide ((n : Int) ≥ 10) = true := decide_eq_true (by omega)
    have HR : Hid (apartB l = false) := by unfold Hid apartB; rw [decide_eq_false (by omega)]; rfl
    clear hn h10
    go_enter Tryz.func39, Tryz.ntmps39
    go_wp2_with fail
    go_ret
    exact ⟨by rw [HR.out]; rfl, Below.refl _ _⟩
end Go.Proofs.YtbkfmbkamocllaaGreatDoor
/-
  package canon: what no element can have (wrong), a question asked of each node, Right.
-/
namespace Go.Proofs.YtbkfmbkamocllaaGreatDoor
open Go.RowKit Tk Tr Cn

/-- A node as a value, its attributes at u. -/
abbrev agC (x : Nd) (u : Value) : Value := .agg #[.int .i64 x.1, .int .i64 x.2.1, .string (bts x.2.2.1), .string (bts x.2.2.2.1), u, .string (bts x.2.2.2.2.2)]
/-- No text of it is greater than memory bears. -/
def SzN (x : Nd) : Prop := x.2.2.1.length ≤ 140737488355328 ∧ x.2.2.2.1.length ≤ 140737488355328 ∧ x.2.2.2.2.2.length ≤ 140737488355328 ∧ x.2.2.2.2.1.length ≤ 1000000000 ∧ ∀ a ∈ x.2.2.2.2.1, a.1.length ≤ 140737488355328 ∧ a.2.length ≤ 140737488355328
set_option maxHeartbeats 4000000 in
set_option maxRecDepth 100000 in
theorem wrong_any (x : Nd) (u : Value) (w : World) (hT : Tabs w) (hu : ReadC w u x.2.2.2.2.1) (hs : SzN x) :
    Calls Tryz.prog 17 #[agC x u] w fun e w' => e = .returned (.bool (!goodN x)) ∧ Below w.heap.size w w' := by
  obtain ⟨s2, s3, s5, sl, sa⟩ := hs
  have HU := Lib.hid hu
  have HT := Lib.hid hT
  have HG : Hid (goodN x = (nameT x.2.2.1 && Tx.valid x.2.2.2.2.2 && Tx.valid x.2.2.2.1 && apartB x.2.2.2.2.1)) := rfl
  obtain ⟨Y, hY⟩ : ∃ Y, w.heap.size = Y := ⟨_, rfl⟩
  obtain ⟨W1, hW1⟩ : ∃ W1, w.alloc (.cells #[.int .i64 x.1, .int .i64 x.2.1, .string (bts x.2.2.1), .string (bts x.2.2.2.1), u, .string (bts x.2.2.2.2.2)] 32) = W1 := ⟨_, rfl⟩
  have HB : Hid (Below w.heap.size w W1) := by rw [← hW1]; exact (Below.refl _ _).alloc (Nat.le_refl _) _
  have hk : Bk W1 Y 32 #[.int .i64 x.1, .int .i64 x.2.1, .string (bts x.2.2.1), .string (bts x.2.2.2.1), u, .string (bts x.2.2.2.2.2)] := by rw [← hW1, ← hY]; exact Bk.new _ _ _
  have y2 : W1.cell? ⟨Y, 2, none⟩ = some (.string (bts x.2.2.1)) := hk.cell 2
  have y3 : W1.cell? ⟨Y, 3, none⟩ = some (.string (bts x.2.2.2.1)) := hk.cell 3
  have y4 : W1.cell? ⟨Y, 4, none⟩ = some u := hk.cell 4
  have y5 : W1.cell? ⟨Y, 5, none⟩ = some (.string (bts x.2.2.2.2.2)) := hk.cell 5
  have HYL : Hid (Y < W1.heap.size) := hk.lt
  have HNA := Lib.hid (cname_any (bts x.2.2.1) W1 (by rw [bts_size]; exact s2))
  have HV5 := Lib.hid (fun (W : World) (h : Below W1.heap.size W1 W) => valid_any (bts x.2.2.2.2.2) W (HT.out.below (HB.out.trans (h.mono HB.out.size))) (by rw [bts_size]; exact s5))
  have HV3 := Lib.hid (fun (W : World) (h : Below W1.heap.size W1 W) => valid_any (bts x.2.2.2.1) W (HT.out.below (HB.out.trans (h.mono HB.out.size))) (by rw [bts_size]; exact s3))
  have HAP := Lib.hid (fun (W : World) (h : Below W1.heap.size W1 W) => apart_any u x.2.2.2.2.1 W (HT.out.below (HB.out.trans (h.mono HB.out.size))) (HU.out.below (HB.out.trans (h.mono HB.out.size))) sl sa)
  have HL := Lib.hid (fun (W : World) (h : Below W1.heap.size W1 W) i => h.cell (p := ⟨Y, i, none⟩) HYL.out)
  have Y2 := Lib.hid y2
  have Y3 := Lib.hid y3
  have Y4 := Lib.hid y4
  have Y5 := Lib.hid y5
  have HW1 := Lib.hid hW1
  have HYE := Lib.hid hY
  obtain ⟨A, cap, rfl, -⟩ := hu
  obtain ⟨n, hn⟩ : ∃ n, x.2.2.2.2.1.length = n := ⟨_, rfl⟩
  rw [hn] at HAP HW1 Y4
  obtain ⟨a0, h0⟩ : ∃ a : Int, x.1 = a := ⟨_, rfl⟩
  obtain ⟨a1, h1⟩ : ∃ a : Int, x.2.1 = a := ⟨_, rfl⟩
  obtain ⟨a2, h2⟩ : ∃ a, bts x.2.2.1 = a := ⟨_, rfl⟩
  obtain ⟨a3, h3⟩ : ∃ a, bts x.2.2.2.1 = a := ⟨_, rfl⟩
  obtain ⟨a5, h5⟩ : ∃ a, bts x.2.2.2.2.2 = a := ⟨_, rfl⟩
  have e2 : a2.data.toList = x.2.2.1 := by rw [← h2]
  have e3 : a3.data.toList = x.2.2.2.1 := by rw [← h3]
  have e5 : a5.data.toList = x.2.2.2.2.2 := by rw [← h5]
  unfold agC
  rw [h0, h1, h2, h3, h5, hn]
  rw [h0, h1, h2, h3, h5] at HW1
  rw [h2] at Y2 HNA
  rw [h3] at Y3 HV3
  rw [h5] at Y5 HV5
  rw [e2] at HNA
  rw [e3] at HV3
  rw [e5] at HV5
  have z2 := Y2.out
  clear h0 h1 h2 h3 h5 e2 e3 e5 s2 s3 s5 sl sa hY hW1 hk y2 y3 y4 y5 hn hT
  cases c2 : nameT x.2.2.1 with
  | false =>
    rw [c2] at HNA
    have HR : Hid ((!goodN x) = true) := by unfold Hid; rw [HG.out, c2]; rfl
    clear c2
    go_enter Tryz.func17, Tryz.ntmps17
    go_upto_region 1 with fail
    rw [HW1.out, HYE.out]
    go_wp2_with (go_at_call 38; refine HNA.out.mono ?_; rintro e w2 ⟨rfl, b2⟩)
    go_ret
    exact ⟨by rw [HR.out]; rfl, HB.out.trans (b2.mono HB.out.size)⟩
  | true =>
    rw [c2] at HNA
    cases c5 : Tx.valid x.2.2.2.2.2 with
    | false =>
      rw [c5] at HV5
      have HR : Hid ((!goodN x) = true) := by unfold Hid; rw [HG.out, c5]; simp
      clear c2 c5
      go_enter Tryz.func17, Tryz.ntmps17
      go_upto_region 1 with fail
      rw [HW1.out, HYE.out]
      go_wp2_with (first | (go_at_call 38; refine HNA.out.mono ?_; rintro e w2 ⟨rfl, b2⟩; have r5 := (HL.out _ b2 5).trans Y5.out) | (go_at_call 24; refine (HV5.out _ b2).mono ?_; rintro e w3 ⟨rfl, b3⟩))
      go_ret
      exact ⟨by rw [HR.out]; rfl, HB.out.trans ((b2.trans (b3.mono b2.size)).mono HB.out.size)⟩
    | true =>
      rw [c5] at HV5
      cases c3 : Tx.valid x.2.2.2.1 with
      | false =>
        rw [c3] at HV3
        have HR : Hid ((!goodN x) = true) := by unfold Hid; rw [HG.out, c3]; simp
        clear c2 c5 c3
        go_enter Tryz.func17, Tryz.ntmps17
        go_upto_region 1 with fail
        rw [HW1.out, HYE.out]
        go_wp2_with (first | (go_at_call 38; refine HNA.out.mono ?_; rintro e w2 ⟨rfl, b2⟩; have r5 := (HL.out _ b2 5).trans Y5.out) | (go_at_call 24; with_reducible refine (HV5.out _ b2).mono ?_; rintro e w3 ⟨rfl, b3⟩; have b23 := b2.trans (b3.mono b2.size); have r3 := (HL.out _ b23 3).trans Y3.out) | (go_at_call 24; with_reducible refine (HV3.out _ b23).mono ?_; rintro e w4 ⟨rfl, b4⟩; have b24 := b23.trans (b4.mono b23.size); have r4 := (HL.out _ b24 4).trans Y4.out))
        go_ret
        exact ⟨by rw [HR.out]; rfl, HB.out.trans (b24.mono HB.out.size)⟩
      | true =>
        rw [c3] at HV3
        have HR : Hid ((!goodN x) = !apartB x.2.2.2.2.1) := by unfold Hid; rw [HG.out, c2, c5, c3]; rfl
        clear c2 c5 c3
        cases hq : apartB x.2.2.2.2.1 with
        | false =>
          rw [hq] at HAP HR
          clear hq
          go_enter Tryz.func17, Tryz.ntmps17
          go_upto_region 1 with fail
          rw [HW1.out, HYE.out]
          go_wp2_with (first | (go_at_call 38; refine HNA.out.mono ?_; rintro e w2 ⟨rfl, b2⟩; have r5 := (HL.out _ b2 5).trans Y5.out) | (go_at_call 24; with_reducible refine (HV5.out _ b2).mono ?_; rintro e w3 ⟨rfl, b3⟩; have b23 := b2.trans (b3.mono b2.size); have r3 := (HL.out _ b23 3).trans Y3.out) | (go_at_call 24; with_reducible refine (HV3.out _ b23).mono ?_; rintro e w4 ⟨rfl, b4⟩; have b24 := b23.trans (b4.mono b23.size); have r4 := (HL.out _ b24 4).trans Y4.out) | (go_at_call 39; refine (HAP.out _ b24).mono ?_; rintro e w5 ⟨rfl, b5⟩))
          go_ret
          exact ⟨by rw [HR.out]; rfl, HB.out.trans ((b24.trans (b5.mono b24.size)).mono HB.out.size)⟩
        | true =>
          rw [hq] at HAP HR
          clear hq
          go_enter Tryz.func17, Tryz.ntmps17
          go_upto_region 1 with fail
          rw [HW1.out, HYE.out]
          go_wp2_with (first | (go_at_call 38; refine HNA.out.mono ?_; rintro e w2 ⟨rfl, b2⟩; have r5 := (HL.out _ b2 5).trans Y5.out) | (go_at_call 24; with_reducible refine (HV5.out _ b2).mono ?_; rintro e w3 ⟨rfl, b3⟩; have b23 := b2.trans (b3.mono b2.size); have r3 := (HL.out _ b23 3).trans Y3.out) | (go_at_call 24; with_reducible refine (HV3.out _ b23).mono ?_; rintro e w4 ⟨rfl, b4⟩; have b24 := b23.trans (b4.mono b23.size); have r4 := (HL.out _ b24 4).trans Y4.out) | (go_at_call 39; refine (HAP.out _ b24).mono ?_; rintro e w5 ⟨rfl, b5⟩))
          go_ret
          exact ⟨by rw [HR.out]; rfl, HB.out.trans ((b24.trans (b5.mono b24.size)).mono HB.out.size)⟩
/-- A question that may be asked of a node. -/
def AskN (w : World) (u : Value) (q : Nd → Bool) : Prop := ∃ (F : FuncId) (cb : Array Value), u = .func (.func F) #[] cb ∧ (∀ args W, (callFunc F args).run Tryz.prog W = .ok (.enter F args) W) ∧
  ∀ (x : Nd) (a : Value) W, Below w.heap.size w W → ReadC W a x.2.2.2.2.1 → SzN x → Calls Tryz.prog F (#[agC x a] ++ cb) W fun e w' => e = .returned (.bool (q x)) ∧ Below W.heap.size W w'
theorem anyN_hit {l : List Nd} {q : Nd → Bool} {k : Nat} {a : Nd} (h : l[k]? = some a) (hq : q a = true) : l.any q = true := List.any_eq_true.2 ⟨a, List.mem_of_getElem? h, hq⟩
theorem anyN_miss {l : List Nd} {q : Nd → Bool} (h : ∀ (j : Nat) (a : Nd), l[j]? = some a → q a = false) : l.any q = false := by
  rw [List.any_eq_false]
  intro a ha
  obtain ⟨j, hj⟩ := List.mem_iff_getElem?.1 ha
  rw [h j a hj]
  simp
set_option maxHeartbeats 1000000 in
theorem indexN_any (v u : Value) (l : List Nd) (q : Nd → Bool) (w : World) (hv : ReadM w v l) (hl : l.length ≤ 1000000) (hs : ∀ x ∈ l, SzN x) (hp : AskN w u q) :
    Calls Tryz.prog 37 #[v, u] w fun e w' => (∃ z : Int, e = .returned (.int .i64 z) ∧ decide (z ≥ 0) = l.any q) ∧ Below w.heap.size w w' := by
  obtain ⟨F, cb, rfl, eg, hp⟩ := hp
  obtain ⟨A, cap, rfl, hcp, hmx, hx⟩ := hv
  have HX := Lib.hid hx
  have HP := Lib.hid hp
  have HS := Lib.hid hs
  have HH := Lib.hid (fun (k : Nat) (a : Nd) (h : l[k]? = some a) (h2 : q a = true) => anyN_hit h h2)
  have HM := Lib.hid (fun (h : ∀ (j : Nat) (a : Nd), l[j]? = some a → q a = false) => anyN_miss h)
  obtain ⟨n, hn⟩ : ∃ n, l.length = n := ⟨_, rfl⟩
  have HN := Lib.hid hn
  rw [hn] at hl HX ⊢
  clear hx hp hs hcp hmx hn
  go_enter Tryz.func37, Tryz.ntmps37
  go_wp2_with fail
  go_loopw [8] (fun i wr => ∃ (k : Nat), k ≤ n ∧ i = .int .i64 k ∧ Hid (∀ (j : Nat) (a : Nd), j < k → l[j]? = some a → q a = false) ∧ Below w.heap.size w wr) (fun i _ => n - (intOf i).toNat)
  case atStart => exact ⟨0, Nat.zero_le _, rfl, Lib.hid (fun j a h => absurd h (Nat.not_lt_zero _)), Below.refl _ _⟩
  case round =>
    obtain ⟨k, hk, rfl, hno, hb⟩ := hrel
    have hsw := hb.size
    by_cases hlt : k < n
    · obtain ⟨ad, rfl, hlb, hc⟩ := HX.out (by omega)
      obtain ⟨x, hxx⟩ : ∃ x, l[k]? = some x := ⟨_, List.getElem?_eq_getElem (by have := HN.out; omega)⟩
      obtain ⟨uv, hat, hua⟩ := hc k x hxx
      obtain ⟨k0, k1, k2, k3, k4, k5⟩ := hat.of (w' := wr) (hb.block _ (by rw [addBlock]; exact hlb))
      have HC := Lib.hid hxx
      have HQ := Lib.hid (HP.out x uv wr hb (hua.below hb) (HS.out x (List.mem_of_getElem? hxx)))
      obtain ⟨UA, ucap, rfl, -⟩ := hua
      unfold agC at HQ
      obtain ⟨un, hun⟩ : ∃ un, x.2.2.2.2.1.length = un := ⟨_, rfl⟩
      obtain ⟨a0, h0⟩ : ∃ a : Int, x.1 = a := ⟨_, rfl⟩
      obtain ⟨a1, h1⟩ : ∃ a : Int, x.2.1 = a := ⟨_, rfl⟩
      obtain ⟨a2, h2⟩ : ∃ a, bts x.2.2.1 = a := ⟨_, rfl⟩
      obtain ⟨a3, h3⟩ : ∃ a, bts x.2.2.2.1 = a := ⟨_, rfl⟩
      obtain ⟨a5, h5⟩ : ∃ a, bts x.2.2.2.2.2 = a := ⟨_, rfl⟩
      rw [h0] at k0
      rw [h1] at k1
      rw [h2] at k2
      rw [h3] at k3
      rw [hun] at k4
      rw [h5] at k5
      rw [h0, h1, h2, h3, h5, hun] at HQ
      clear hc hxx hat hun h0 h1 h2 h3 h5
      go_wp2_with fail
      refine HQ.out.mono ?_
      rintro e w2 ⟨rfl, b2⟩
      have hb2 : Below w.heap.size w w2 := hb.trans (b2.mono hsw)
      clear k0 k1 k2 k3 k4 k5
      cases hq : q x with
      | true =>
        have hf := Lib.hid (HH.out k x HC.out hq)
        clear hq b2
        go_wp2_with fail
        go_ret
        exact ⟨⟨_, rfl, by rw [hf.out]; simp⟩, hb2⟩
      | false =>
        have hno2 : Hid (∀ (j : Nat) (a : Nd), j < k + 1 → l[j]? = some a → q a = false) := Lib.hid (fun j a hj ha => by
          rcases Nat.lt_or_ge j k with h | h
          · exact hno.out j a h ha
          · obtain rfl : j = k := by omega
            rw [HC.out] at ha
            cases ha
            exact hq)
        clear hq b2
        go_wp2_with fail
        go_roundw
        case rel => exact ⟨k + 1, by omega, by go_num, hno2, hb2⟩
        case measure => simp [intOf]; omega
    · have hf := Lib.hid (HM.out (fun j a ha => hno.out j a (by have := (List.getElem?_eq_some_iff.1 ha).1; have := HN.out; omega) ha))
      go_wp2_with fail
      go_ret
      exact ⟨⟨_, rfl, by rw [hf.out]; simp⟩, hb⟩
set_option maxHeartbeats 400000 in
theorem containsN_any (v u : Value) (l : List Nd) (q : Nd → Bool) (w : World) (hv : ReadM w v l) (hl : l.length ≤ 1000000) (hs : ∀ x ∈ l, SzN x) (hp : AskN w u q) :
    Calls Tryz.prog 16 #[v, u] w fun e w' => e = .returned (.bool (l.any q)) ∧ Below w.heap.size w w' := by
  have HI := Lib.hid (indexN_any v u l q w hv hl hs hp)
  obtain ⟨A, cap, rfl, hx⟩ := hv
  obtain ⟨F, cb, rfl, eg, hp⟩ := hp
  obtain ⟨r, hr⟩ : ∃ r, l.any q = r := ⟨_, rfl⟩
  rw [hr] at HI ⊢
  clear hx hp hr eg
  go_enter Tryz.func16, Tryz.ntmps16
  go_wp2_with (go_at_call 37; refine HI.out.mono ?_; rintro e w1 ⟨⟨z, rfl, hz⟩, hb⟩)
  go_ret
  exact ⟨rfl, hb⟩
theorem all_any (ns : List Nd) : ns.all goodN = !ns.any (fun x => !goodN x) := by
  rw [List.not_any_eq_all_not]
  congr 1
  funext x
  rw [Bool.not_not]
set_option maxHeartbeats 2000000 in
/-- Right -/
theorem right_any (v : Value) (ns : List Nd) (w : World) (hT : Tabs w) (hv : ReadM w v ns) (hl : ns.length ≤ 1000000) (hs : ∀ x ∈ ns, SzN x) :
    Calls Tryz.prog 10 #[v] w fun e w' => e = .returned (.bool (rightB ns)) ∧ Below w.heap.size w w' := by
  have HR0 : Hid (rightB ns = (decide (0 < ns.length) && decide (ns.length ≤ 1000) && nestB ns && !ns.any (fun x => !goodN x))) := by unfold Hid rightB; rw [all_any]
  have eg : ∀ args w, (callFunc 17 args).run Tryz.prog w = .ok (.enter 17 args) w := Go.Proofs.enters_of Tryz.func17 (by kernel_rfl) rfl
  have HNE := Lib.hid (fun (h0 : 0 < ns.length) => nested_any v ns w hv h0 hl)
  have HCO := Lib.hid (fun (W : World) (h : Below w.heap.size w W) => containsN_any v (.func (.func 17) #[] #[]) ns (fun x => !goodN x) W (hv.below h) hl hs ⟨_, _, rfl, eg, fun x a W2 hW2 ha hx => wrong_any x a W2 ((hT.below h).below hW2) ha hx⟩)
  obtain ⟨A, cap, rfl, -⟩ := hv
  obtain ⟨n, hn⟩ : ∃ n, ns.length = n := ⟨_, rfl⟩
  rw [hn] at HR0 HNE HCO hl ⊢
  clear hn eg hs hT
  by_cases h0 : 0 < n
  · have g0 : decide ((n : Int) > 0) = true := decide_eq_true (by omega)
    by_cases h1 : n ≤ 1000
    · have g1 : decide ((n : Int) ≤ 1000) = true := decide_eq_true (by omega)
      have HN2 := Lib.hid (HNE.out h0)
      cases hq : nestB ns with
      | false =>
        rw [hq] at HN2
        have HR : Hid (rightB ns = false) := by unfold Hid; rw [HR0.out, hq]; simp
        clear hq
        go_enter Tryz.func10, Tryz.ntmps10
        go_wp2_with (go_at_call 15; refine HN2.out.mono ?_; rintro e w1 ⟨rfl, b1⟩)
        go_ret
        exact ⟨by rw [HR.out]; rfl, b1⟩
      | true =>
        rw [hq] at HN2
        cases hz : ns.any (fun x => !goodN x) with
        | true =>
          rw [hz] at HCO
          have HR : Hid (rightB ns = false) := by unfold Hid; rw [HR0.out, hz]; simp
          clear hq hz
          go_enter Tryz.func10, Tryz.ntmps10
          go_wp2_with (first | (go_at_call 15; refine HN2.out.mono ?_; rintro e w1 ⟨rfl, b1⟩) | (go_at_call 16; refine (HCO.out _ b1).mono ?_; rintro e w2 ⟨rfl, b2⟩))
          go_ret
          exact ⟨by rw [HR.out]; rfl, b1.trans (b2.mono b1.size)⟩
        | false =>
          rw [hz] at HCO
          have HR : Hid (rightB ns = true) := by unfold Hid; rw [HR0.out, hz, hq, decide_eq_true h0, decide_eq_true h1]; rfl
          clear hq hz
          go_enter Tryz.func10, Tryz.ntmps10
          go_wp2_with (first | (go_at_call 15; refine HN2.out.mono ?_; rintro e w1 ⟨rfl, b1⟩) | (go_at_call 16; refine (HCO.out _ b1).mono ?_; rintro e w2 ⟨rfl, b2⟩))
          go_ret
          exact ⟨by rw [HR.out]; rfl, b1.trans (b2.mono b1.size)⟩
    · have g1 : decide ((n : Int) ≤ 1000) = false := decide_eq_false (by omega)
      have HR : Hid (rightB ns = false) := by unfold Hid; rw [HR0.out, decide_eq_false h1]; simp
      go_enter Tryz.func10, Tryz.ntmps10
      go_wp2_with fail
      go_ret
      exact ⟨by rw [HR.out]; rfl, Below.refl _ _⟩
  · have g0 : decide ((n : Int) > 0) = false := decide_eq_false (by omega)
    have HR : Hid (rightB ns = false) := by unfold Hid; rw [HR0.out, decide_eq_false h0]; rfl
    go_enter Tryz.func10, Tryz.ntmps10
    go_wp2_with fail
    go_ret
    exact ⟨by rw [HR.out]; rfl, Below.refl _ _⟩
end Go.Proofs.YtbkfmbkamocllaaGreatDoor
