/-
  package tree: Kids, Attr; the law's awake.
-/
import Derived.Test.YtpomcamkkcggmaaGreatDoorTrX
namespace Go.Proofs.YtpomcamkkcggmaaGreatDoor
open Go.RowKit Tk Tr

theorem ReadN.at {w : World} {A : Option Addr} {n cap : Nat} {ns : List Nd} (h : ReadN w (.slice A n cap) ns) (h0 : 0 < ns.length) : ∃ ad : Addr, A = some ad ∧ ad.block < w.heap.size ∧ ∀ i x, ns[i]? = some x → ∃ u, AtN w (ad.add (i * 6)) x u ∧ ReadA w u x.2.2.2.2.1 := by
  obtain ⟨A', cap', e, h2⟩ := h
  injection e with e1 e2 e3
  subst e1
  exact h2 h0
set_option maxHeartbeats 4000000 in
set_option maxRecDepth 100000 in
theorem kids_any (v : Value) (ns : List Nd) (i : Int) (w : World) (hv : ReadN w v ns) (hl : ns.length ≤ 1000000) :
    Calls Tryz.prog 17 #[v, .int .i64 i] w fun e w' => (∃ v', e = .returned v' ∧ Owned w.heap.size w' v' (kidsL ns i)) ∧ Below w.heap.size w w' := by
  obtain ⟨A, cap, rfl, hx⟩ := hv
  have HX := Lib.hid hx
  obtain ⟨n, hn⟩ : ∃ n, ns.length = n := ⟨_, rfl⟩
  have HN := Lib.hid hn
  rw [hn] at hl HX ⊢
  clear hx
  by_cases hi0 : i < 0
  · have HR : Hid (kidsL ns i = []) := by unfold Hid kidsL; rw [if_neg (by omega)]
    clear hn
    have g0 : decide (i < 0) = true := decide_eq_true hi0
    clear hi0
    go_enter Tryz.func17, Tryz.ntmps17
    go_wp2_with fail
    go_ret
    rw [HR.out]
    exact ⟨⟨_, rfl, Owned.nil _ _⟩, Below.refl _ _⟩
  by_cases hin : i < n
  · have HR : Hid (kidsL ns i = kidsF i 0 ns) := by unfold Hid kidsL; rw [if_pos (by omega)]
    have g0 : decide (i < 0) = false := decide_eq_false hi0
    have g1 : decide (i ≥ (n : Int)) = false := decide_eq_false (by omega)
    clear hn hi0 hin
    go_enter Tryz.func17, Tryz.ntmps17
    go_wp2_with fail
    go_loopw [5, 18] (fun kv c wr => ∃ (k : Nat) (nw : Value), k ≤ n ∧ c = .int .i64 k ∧ kv = nw ∧ Hid (Owned w.heap.size wr nw (kidsF i 0 (ns.take k))) ∧ Hid (Below w.heap.size w wr)) (fun _ c _ => n - (intOf c).toNat)
    case atStart => exact ⟨0, _, Nat.zero_le _, rfl, rfl, Owned.nil _ _, Below.refl _ _⟩
    case round =>
      obtain ⟨k, nw, hk, rfl, hnv, ho, hb⟩ := hrel
      have hnv2 := hnv.symm
      clear hnv
      subst hnv2
      obtain ⟨KA, kcap, hnf⟩ := ho.out.slice
      subst hnf
      obtain ⟨kn, hkn⟩ : ∃ kn, (kidsF i 0 (ns.take k)).length = kn := ⟨_, rfl⟩
      have hknb : kn ≤ 1000000 := by rw [← hkn]; have := kidsF_len i 0 (ns.take k); rw [List.length_take] at this; omega
      have HKN := Lib.hid hkn
      rw [hkn] at ho ⊢
      clear hkn
      by_cases hlt : k < n
      · obtain ⟨ad, rfl, hlb, hc⟩ := HX.out (by omega)
        obtain ⟨x, hx⟩ : ∃ x, ns[k]? = some x := ⟨_, List.getElem?_eq_getElem (by have := HN.out; omega)⟩
        obtain ⟨u, hat, hua⟩ := hc k x hx
        obtain ⟨k0, k1, k2, k3, k4, k5⟩ := hat.of (w' := wr) (hb.out.block _ (by rw [addBlock]; exact hlb))
        obtain ⟨UA, ucap, rfl, -⟩ := hua
        have HKT := Lib.hid (kids_take (i := i) hx)
        obtain ⟨un, hun⟩ : ∃ un, x.2.2.2.2.1.length = un := ⟨_, rfl⟩
        rw [hun] at k4
        obtain ⟨a0, h0⟩ : ∃ a : Int, x.1 = a := ⟨_, rfl⟩
        obtain ⟨a1, h1⟩ : ∃ a : Int, x.2.1 = a := ⟨_, rfl⟩
        obtain ⟨a2, h2⟩ : ∃ a, bts x.2.2.1 = a := ⟨_, rfl⟩
        obtain ⟨a3, h3⟩ : ∃ a, bts x.2.2.2.1 = a := ⟨_, rfl⟩
        obtain ⟨a5, h5⟩ : ∃ a, bts x.2.2.2.2.2 = a := ⟨_, rfl⟩
        rw [h0] at k0 HKT
        rw [h1] at k1
        rw [h2] at k2
        rw [h3] at k3
        rw [h5] at k5
        obtain ⟨Y, hY⟩ : ∃ Y, wr.heap.size = Y := ⟨_, rfl⟩
        obtain ⟨W7, hW7⟩ : ∃ W7, wr.alloc (.cells #[.int .i64 a0, .int .i64 a1, .string a2, .string a3, .slice UA un ucap, .string a5] 34) = W7 := ⟨_, rfl⟩
        have hw7 : Below wr.heap.size wr W7 := by rw [← hW7]; exact (Below.refl _ _).alloc (Nat.le_refl _) _
        have y0 : W7.cell? ⟨Y, 0, none⟩ = some (.int .i64 a0) := by rw [← hW7, ← hY]; exact (Bk.new _ _ _).cell 0
        have O7 := Lib.hid (ho.out.below hw7)
        have B7 : Hid (Below w.heap.size w W7) := hb.out.trans (hw7.mono hb.out.size)
        have HW7 := Lib.hid hW7
        have HYE := Lib.hid hY
        clear hc hx hat hun h0 h1 h2 h3 h5 hW7 hY hw7 ho hb
        go_upto_region 7 with fail
        rw [HW7.out, HYE.out]
        clear k0 k1 k2 k3 k4 k5
        by_cases hd : a0 = i
        · have gd : (a0 == i) = true := by simpa using hd
          have HKT2 : Hid (kidsF i 0 (ns.take (k + 1)) = kidsF i 0 (ns.take k) ++ [k]) := by unfold Hid; rw [HKT.out, if_pos hd]
          have hz := B7.out.size
          have hkl : (kidsF i 0 (ns.take k)).length ≤ 2000000000 := by rw [HKN.out]; omega
          clear hd
          go_wp2_with (at_builtin; refine push_int rfl _ _ rfl w.heap.size (.slice KA kn kcap) (kidsF i 0 (ns.take k)) k _ rfl W7 rfl O7.out rfl hkl hz ?_)
          intro v9 w9 o9 b9 k9
          have O9 : Hid (Owned w.heap.size w9 v9 (kidsF i 0 (ns.take (k + 1)))) := by unfold Hid; rw [HKT2.out]; exact o9
          have B9 : Hid (Below w.heap.size w w9) := B7.out.trans b9
          clear o9 b9 k9 hz hkl
          go_wp2_with fail
          go_roundw
          case rel => exact ⟨k + 1, _, by omega, by go_num, rfl, O9, B9⟩
          case measure => simp [intOf]; omega
        · have gd : (a0 == i) = false := by simpa using hd
          have HKT2 : Hid (kidsF i 0 (ns.take (k + 1)) = kidsF i 0 (ns.take k)) := by unfold Hid; rw [HKT.out, if_neg hd, List.append_nil]
          clear hd
          go_wp2_with fail
          go_roundw
          case rel => exact ⟨k + 1, _, by omega, by go_num, rfl, by rw [HKT2.out]; exact O7, B7⟩
          case measure => simp [intOf]; omega
      · have HT : Hid (ns.take k = ns) := by unfold Hid; rw [List.take_of_length_le (by have := HN.out; omega)]
        go_wp2_with fail
        go_ret
        rw [HR.out]
        refine ⟨⟨_, rfl, ?_⟩, hb.out⟩
        have h1 := ho.out
        rw [HT.out] at h1
        exact h1
  · have HR : Hid (kidsL ns i = []) := by unfold Hid kidsL; rw [if_neg (by omega)]
    have g0 : decide (i < 0) = false := decide_eq_false hi0
    have g1 : decide (i ≥ (n : Int)) = true := decide_eq_true (by omega)
    clear hn hi0 hin
    go_enter Tryz.func17, Tryz.ntmps17
    go_wp2_with fail
    go_ret
    rw [HR.out]
    exact ⟨⟨_, rfl, Owned.nil _ _⟩, Below.refl _ _⟩
set_option maxHeartbeats 2000000 in
theorem attrTr_any (a0 a1 : Int) (a2 a3 a5 : ByteArray) (u : Value) (al : List Att) (n : List UInt8) (w : World) (hu : ReadA w u al) (hl : al.length ≤ 1000000000000) :
    Calls Tryz.prog 12 #[.agg #[.int .i64 a0, .int .i64 a1, .string a2, .string a3, u, .string a5], .string (bts n)] w fun e w' => e = .returned (.tuple #[.string (bts (attrOf al n).1), .bool (attrOf al n).2]) ∧ Below w.heap.size w w' := by
  obtain ⟨UA, ucap, rfl, -⟩ := id hu
  obtain ⟨un, hun⟩ : ∃ un, al.length = un := ⟨_, rfl⟩
  rw [hun] at hu ⊢
  have HB : Hid (Below w.heap.size w (w.alloc (.cells #[.int .i64 a0, .int .i64 a1, .string a2, .string a3, .slice UA un ucap, .string a5] 34))) := (Below.refl _ _).alloc (Nat.le_refl _) _
  have HV := Lib.hid (valueT_any _ al n _ (hu.below HB.out) hl)
  obtain ⟨q, hq⟩ : ∃ q, attrOf al n = q := ⟨_, rfl⟩
  rw [hq] at HV ⊢
  obtain ⟨q1, q2⟩ := q
  simp only at HV ⊢
  generalize bts q1 = Q at *
  generalize bts n = N at *
  clear hu hl hun hq
  go_enter Tryz.func12, Tryz.ntmps12
  go_wp2_with (go_at_call 27; refine HV.out.mono ?_; rintro e w1 ⟨rfl, b1⟩)
  refine bodyPost_ret (v := .tuple #[.string Q, .bool q2]) (by simp [results, Tryz.results12, go_sem]) rfl ⟨rfl, HB.out.trans (b1.mono HB.out.size)⟩
def wakeS : ByteArray := ⟨#[60, 97, 32, 120, 109, 108, 110, 115, 61, 39, 110, 39, 62, 60, 98, 32, 99, 61, 39, 49, 39, 62, 120, 60, 47, 98, 62, 60, 47, 97, 62]⟩
theorem awakeP : parseL [60, 97, 32, 120, 109, 108, 110, 115, 61, 39, 110, 39, 62, 60, 98, 32, 99, 61, 39, 49, 39, 62, 120, 60, 47, 98, 62, 60, 47, 97, 62] = ([(-1, 0, [97], [110], [], []), (0, 13, [98], [110], [([99], [49])], [120])], 0, 0) := by decide +kernel
theorem OwnN.at {B : Nat} {w : World} {v : Value} {ns : List Nd} (h : OwnN B w v ns) (h0 : 0 < ns.length) : ∃ g cap, v = .slice (some ⟨g, 0, none⟩) ns.length cap ∧ g < w.heap.size ∧ ∀ i x, ns[i]? = some x → ∃ u, RowA w u x.2.2.2.2.1 ∧ w.cell? ⟨g, i * 6, none⟩ = some (.int .i64 x.1) ∧ w.cell? ⟨g, i * 6 + 1, none⟩ = some (.int .i64 x.2.1) ∧ w.cell? ⟨g, i * 6 + 2, none⟩ = some (.string (bts x.2.2.1)) ∧
    w.cell? ⟨g, i * 6 + 3, none⟩ = some (.string (bts x.2.2.2.1)) ∧ w.cell? ⟨g, i * 6 + 4, none⟩ = some u ∧ w.cell? ⟨g, i * 6 + 5, none⟩ = some (.string (bts x.2.2.2.2.2)) := by
  obtain ⟨ks, rfl, h', hr⟩ := h
  rw [List.length_map] at h0 ⊢
  rcases h'.2 with ⟨rfl, h1⟩ | ⟨g, cap, cur, rfl, hg, hh, h1, h2, h3, h4⟩
  · omega
  · refine ⟨g, cap, rfl, lt_of_block hh, fun i x hi => ?_⟩
    rw [List.getElem?_map] at hi
    obtain ⟨k, hk, rfl⟩ := Option.map_eq_some_iff.1 hi
    have hlt := (List.getElem?_eq_some_iff.1 hk).1
    have hc : ∀ j, j < 6 → w.cell? ⟨g, i * 6 + j, none⟩ = (encN k)[j]? := fun j hj => by
      rw [show w.cell? ⟨g, i * 6 + j, none⟩ = cur[i * 6 + j]? from Bk.cell (show Bk w g 34 cur from hh) _, ← Array.getElem?_toList, ← nds_get hk hj, ← h4, List.getElem?_take_of_lt (by omega)]
    exact ⟨k.2, hr k (List.mem_of_getElem? hk), hc 0 (by omega), hc 1 (by omega), hc 2 (by omega), hc 3 (by omega), hc 4 (by omega), hc 5 (by omega)⟩
abbrev wakeN : List Nd := [(-1, 0, [97], [110], [], []), (0, 13, [98], [110], [([99], [49])], [120])]
set_option maxHeartbeats 4000000 in
set_option maxRecDepth 100000 in
theorem awakeT_any (w : World) (hT : Tabs w) (hE : ErrS w) : Calls Tryz.prog 7 #[] w fun e w' => e = .returned (.bool true) ∧ Below w.heap.size w w' := by
  have H1 := Lib.hid (parse_any wakeS w hT hE (by show 31 ≤ 100000; omega))
  rw [show wakeS.data.toList = [60, 97, 32, 120, 109, 108, 110, 115, 61, 39, 110, 39, 62, 60, 98, 32, 99, 61, 39, 49, 39, 62, 120, 60, 47, 98, 62, 60, 47, 97, 62] from rfl, awakeP] at H1
  unfold wakeS at H1
  have HAT := Lib.hid (fun u W (hu : ReadA W u [([99], [49])]) => attrTr_any 0 13 ⟨#[98]⟩ ⟨#[110]⟩ ⟨#[120]⟩ u [([99], [49])] [99] W hu (by decide))
  rw [show attrOf [([99], [49])] [99] = ([49], true) from by decide] at HAT
  have HKD := Lib.hid (fun v W (hv : ReadN W v wakeN) => kids_any v wakeN 0 W hv (by decide))
  rw [show kidsL wakeN 0 = [1] from by decide] at HKD
  have HPL := Lib.hid (fun B v u W (hx : Reads B W v [1]) (hy : Reads B W u [1]) => plain_any B v u [1] [1] W hx hy (by decide) (by decide))
  clear hT hE
  go_enter Tryz.func7, Tryz.ntmps7
  go_wp2_with fail
  refine H1.out.mono ?_
  rintro e w1 ⟨⟨v, rfl, o1⟩, b1⟩
  obtain ⟨g, cap, rfl, hgl, hat⟩ := o1.at (by decide)
  obtain ⟨u, ru, k0, k1, k2, k3, k4, k5⟩ := hat 1 _ rfl
  have c6 : w1.cell? ⟨g, 6, none⟩ = some (.int .i64 0) := k0
  have c7 : w1.cell? ⟨g, 7, none⟩ = some (.int .i64 13) := k1
  have c8 : w1.cell? ⟨g, 8, none⟩ = some (.string ⟨#[98]⟩) := k2
  have c9 : w1.cell? ⟨g, 9, none⟩ = some (.string ⟨#[110]⟩) := k3
  have c10 : w1.cell? ⟨g, 10, none⟩ = some u := k4
  have c11 : w1.cell? ⟨g, 11, none⟩ = some (.string ⟨#[120]⟩) := k5
  obtain ⟨UA, ucap, rfl, -⟩ := id ru
  have B1 := Lib.hid b1
  have O1 := Lib.hid o1.reads
  have HGL := Lib.hid hgl
  have HA2 := Lib.hid (HAT.out _ w1 ru.reads)
  have C9 := Lib.hid c9
  have C11 := Lib.hid c11
  clear b1 o1 hat k0 k1 k2 k3 k4 k5 hgl ru
  go_wp2_with fail
  refine HA2.out.mono ?_
  rintro e w2 ⟨rfl, b2⟩
  have B2 := Lib.hid (B1.out.trans (b2.mono B1.out.size))
  have d9 : w2.cell? ⟨g, 9, none⟩ = some (.string ⟨#[110]⟩) := (b2.cell (p := ⟨g, 9, none⟩) HGL.out).trans C9.out
  have d11 : w2.cell? ⟨g, 11, none⟩ = some (.string ⟨#[120]⟩) := (b2.cell (p := ⟨g, 11, none⟩) HGL.out).trans C11.out
  have HK2 := Lib.hid (HKD.out _ w2 (O1.out.below b2))
  clear b2 c6 c7 c8 c9 c10 c11
  go_wp2_with fail
  refine HK2.out.mono ?_
  rintro e w3 ⟨⟨v3, rfl, o3⟩, b3⟩
  obtain ⟨KA, kcap, rfl⟩ := o3.slice
  have B3 := Lib.hid (B2.out.trans (b3.mono B2.out.size))
  have b4 : Below w3.heap.size w3 (w3.alloc (.cells #[.int .i64 1] 3)) := (Below.refl _ _).alloc (Nat.le_refl _) _
  have M4 : Reads (w3.heap.size + 1) (w3.alloc (.cells #[.int .i64 1] 3)) (.slice (some ⟨w3.heap.size, 0, none⟩) 1 1) [1] := Reads.made w3 3 [1] #[.int .i64 1] 1 1 (ints_one 1) rfl
  have R4 : Reads (w3.heap.size + 1) (w3.alloc (.cells #[.int .i64 1] 3)) (.slice KA 1 kcap) [1] := (o3.reads.below b4).more (Nat.le_succ _)
  have HP4 := Lib.hid (HPL.out _ _ _ _ R4 M4)
  have B4 := Lib.hid (B3.out.trans (b4.mono B3.out.size))
  rw [show ([1] : List Nat).length = 1 from rfl]
  clear b3 o3 b4 M4 R4
  go_wp2_with (go_at_call 16; refine HP4.out.mono ?_; rintro e w4 ⟨rfl, b5⟩)
  go_ret
  exact ⟨rfl, B4.out.trans (b5.mono B4.out.size)⟩
end Go.Proofs.YtpomcamkkcggmaaGreatDoor
