/-
  The law VcardCapitals.
-/
import Derived.Test.YtphopnfnjnieaaaGreatDoorVAw
import Derived.Test.YtphopnfnjnieaaaGreatDoorVSame
import Derived.Test.YtphopnfnjnieaaaGreatDoorVUp
import Derived.Test.YtphopnfnjnieaaaGreatDoorVPl
namespace Go.Proofs.YtphopnfnjnieaaaGreatDoor
open Go.RowKit Vc

theorem bts_catC (a b : List UInt8) : (bts a ++ bts b : ByteArray) = bts (a ++ b) := by
  apply ByteArray.ext
  apply Array.ext'
  simp
def seqB : ByteArray := ⟨#[97, 66, 99, 68, 101, 70, 45, 57]⟩
theorem one_back (w : World) (c : UInt8) : (convert 35 9 (.slice (some ⟨w.heap.size, 0, none⟩) 1 1)).run Tryz.prog (w.alloc (.cells #[.int .u8 (c.toNat : Nat)] 5)) = .ok (.string ⟨#[c]⟩) (w.alloc (.cells #[.int .u8 (c.toNat : Nat)] 5)) := by
  refine run_convert_bytes_back _ 35 9 5 ⟨w.heap.size, 0, none⟩ 1 [c] Tryz.underlying35 Tryz.underlying5 Tryz.underlying9 fun j hj => ?_
  obtain rfl : j = 0 := by simpa using hj
  rw [add_at, Nat.zero_add, (Bk.new w _ _).cell]
  rfl
theorem made_want (W : World) (g u n v : List UInt8) : ReadV (((W.alloc (.cells #[.string (bts u), .string (bts n)] 38)).alloc (.cells #[.string (bts g), .string (bts u), .slice (some ⟨W.heap.size, 0, none⟩) 1 1, .string (bts v)] 41)).alloc (.cells #[.slice (some ⟨W.heap.size + 1, 0, none⟩) 1 1] 25)) (.slice (some ⟨W.heap.size + 1 + 1, 0, none⟩) 1 1) [[(g, u, [(u, n)], v)]] := by
  obtain ⟨W1, hW1⟩ : ∃ W1, W.alloc (.cells #[.string (bts u), .string (bts n)] 38) = W1 := ⟨_, rfl⟩
  have k1 : Bk W1 W.heap.size 38 #[.string (bts u), .string (bts n)] := by rw [← hW1]; exact Bk.new _ _ _
  have z1 : W1.heap.size = W.heap.size + 1 := by rw [← hW1, World.size_alloc]
  rw [hW1]
  obtain ⟨W2, hW2⟩ : ∃ W2, W1.alloc (.cells #[.string (bts g), .string (bts u), .slice (some ⟨W.heap.size, 0, none⟩) 1 1, .string (bts v)] 41) = W2 := ⟨_, rfl⟩
  have k2 : Bk W2 (W.heap.size + 1) 41 #[.string (bts g), .string (bts u), .slice (some ⟨W.heap.size, 0, none⟩) 1 1, .string (bts v)] := by rw [← hW2, ← z1]; exact Bk.new _ _ _
  have z2 : W2.heap.size = W.heap.size + 1 + 1 := by rw [← hW2, World.size_alloc, z1]
  have k12 : Bk W2 W.heap.size 38 #[.string (bts u), .string (bts n)] := by rw [← hW2]; exact k1.alloc _
  rw [hW2]
  obtain ⟨W3, hW3⟩ : ∃ W3, W2.alloc (.cells #[.slice (some ⟨W.heap.size + 1, 0, none⟩) 1 1] 25) = W3 := ⟨_, rfl⟩
  have k3 : Bk W3 (W.heap.size + 1 + 1) 25 #[.slice (some ⟨W.heap.size + 1, 0, none⟩) 1 1] := by rw [← hW3, ← z2]; exact Bk.new _ _ _
  have k13 : Bk W3 W.heap.size 38 #[.string (bts u), .string (bts n)] := by rw [← hW3]; exact k12.alloc _
  have k23 : Bk W3 (W.heap.size + 1) 41 #[.string (bts g), .string (bts u), .slice (some ⟨W.heap.size, 0, none⟩) 1 1, .string (bts v)] := by rw [← hW3]; exact k2.alloc _
  rw [hW3]
  refine ⟨_, 1, rfl, fun _ => ⟨_, rfl, k3.lt, fun i c hi => ?_⟩⟩
  match i, hi with
  | 0, hi =>
    cases hi
    refine ⟨_, k3.cell 0, _, 1, rfl, fun _ => ⟨_, rfl, k23.lt, fun i x hx => ?_⟩⟩
    match i, hx with
    | 0, hx =>
      cases hx
      refine ⟨_, ⟨k23.cell 0, k23.cell 1, k23.cell 2, k23.cell 3⟩, _, 1, rfl, fun _ => ⟨_, rfl, k13.lt, fun i a ha => ?_⟩⟩
      match i, ha with
      | 0, ha =>
        cases ha
        exact ⟨k13.cell 0, k13.cell 1⟩
      | i + 1, ha => simp at ha
    | i + 1, hx => simp at hx
  | i + 1, hi => simp at hi
/-- the text that the law reads -/
def capV (b : Bool) : List UInt8 := if b then [103, 82] else []
theorem capV_word (b : Bool) : capV b = [] ∨ Word (capV b) := by
  cases b
  · exact .inl rfl
  · exact .inr ⟨by decide, by decide⟩
theorem capText (b : Bool) (n v : List UInt8) : [98, 101, 103, 105, 110, 58, 118, 67, 97, 114, 100, 13, 10, 118, 101, 114, 115, 105, 111, 110, 58, 52, 46, 48, 13, 10] ++ groupT (capV b) ++ n ++ [59] ++ n ++ [61] ++ n ++ [58] ++ v ++ [13, 10, 101, 110, 100, 58, 86, 67, 65, 82, 68, 13, 10] = Tx.ends [beginS, versS, capT (capV b) n v, endS] := by
  rw [Tx.ends_cons, Tx.ends_cons, Tx.ends_cons, Tx.ends_cons, Tx.ends_nil]
  unfold capT beginS versS endS
  simp
theorem name_not {m : List UInt8} : up (120 :: m) ≠ beginN ∧ up (120 :: m) ≠ versN := by
  rw [up_cons]
  constructor <;> (intro e; injection e with e _; revert e; decide)
theorem wrap_u8 {n : Nat} (h : n < 256) : wrap64 (n : Int) = n := by unfold wrap64; omega
theorem seq_word (q : Nat) (hq : q < seqB.size) : wc seqB[q] = true := by
  have H : ∀ q : Fin 8, wc (seqB.data.toList.getD q.val 0) = true := by decide
  have := H ⟨q, hq⟩
  rw [← this]
  congr 1
  show _ = seqB.data.toList.getD q 0
  rw [List.getD_eq_getElem?_getD, List.getElem?_eq_getElem (by rw [← Lib.size_eq]; exact hq)]
  rfl
theorem name_more {N : ByteArray} {c : UInt8} (h : N.data.toList.head? = some 120 ∧ (∀ c ∈ N.data.toList, wc c = true)) (hc : wc c = true) : (N ++ ⟨#[c]⟩ : ByteArray).data.toList.head? = some 120 ∧ (∀ d ∈ (N ++ ⟨#[c]⟩ : ByteArray).data.toList, wc d = true) := by
  have e : (N ++ ⟨#[c]⟩ : ByteArray).data.toList = N.data.toList ++ [c] := by rw [ByteArray.data_append, Array.toList_append]
  rw [e]
  refine ⟨?_, fun d hd => ?_⟩
  · cases hN : N.data.toList with
    | nil => rw [hN] at h; cases h.1
    | cons a t => rw [hN] at h; exact h.1
  · rcases List.mem_append.1 hd with hd | hd
    · exact h.2 d hd
    · rw [List.mem_singleton] at hd; subst hd; exact hc
theorem name_size (N : ByteArray) (c : UInt8) : (N ++ ⟨#[c]⟩ : ByteArray).size = N.size + 1 := by
  rw [Lib.size_eq, ByteArray.data_append, Array.toList_append, List.length_append, ← Lib.size_eq]
  rfl
theorem cap_calls (b : Bool) (N v : ByteArray) (w : World) (hO : Okw w) (hN : N.data.toList.head? = some 120 ∧ (∀ c ∈ N.data.toList, wc c = true)) (hs : N.size ≤ 11) (hv : Tx.valid v.data.toList = true) (hc : Tx.clean v.data.toList) (hvs : v.size ≤ 100) :
    Calls Tryz.prog 8 #[.string (⟨#[98, 101, 103, 105, 110, 58, 118, 67, 97, 114, 100, 13, 10, 118, 101, 114, 115, 105, 111, 110, 58, 52, 46, 48, 13, 10]⟩ ++ bts (groupT (capV b)) ++ N ++ ⟨#[59]⟩ ++ N ++ ⟨#[61]⟩ ++ N ++ ⟨#[58]⟩ ++ v ++ ⟨#[13, 10, 101, 110, 100, 58, 86, 67, 65, 82, 68, 13, 10]⟩)] w
      fun e w' => (∃ u, e = .returned (.tuple #[u, .int .i64 0, .int .i64 0]) ∧ ReadV w' u [[(capV b, up N.data.toList, [(up N.data.toList, N.data.toList)], v.data.toList)]]) ∧ Below w.heap.size w w' := by
  obtain ⟨n, hn⟩ : ∃ n, N.data.toList = n := ⟨_, rfl⟩
  obtain ⟨x, hx⟩ : ∃ x, v.data.toList = x := ⟨_, rfl⟩
  have eN : N = bts n := by rw [← hn]
  have ev : v = bts x := by rw [← hx]
  have ln : n.length ≤ 11 := by rw [← hn, ← Lib.size_eq]; exact hs
  have lx : x.length ≤ 100 := by rw [← hx, ← Lib.size_eq]; exact hvs
  rw [hx] at hv hc
  rw [hn] at hN
  rw [hn, hx]
  subst eN ev
  obtain ⟨m, rfl⟩ : ∃ m, n = 120 :: m := by
    cases n with
    | nil => cases hN.1
    | cons a t => cases hN.1; exact ⟨t, rfl⟩
  have e : (⟨#[98, 101, 103, 105, 110, 58, 118, 67, 97, 114, 100, 13, 10, 118, 101, 114, 115, 105, 111, 110, 58, 52, 46, 48, 13, 10]⟩ ++ bts (groupT (capV b)) ++ bts (120 :: m) ++ ⟨#[59]⟩ ++ bts (120 :: m) ++ ⟨#[61]⟩ ++ bts (120 :: m) ++ ⟨#[58]⟩ ++ bts x ++ ⟨#[13, 10, 101, 110, 100, 58, 86, 67, 65, 82, 68, 13, 10]⟩ : ByteArray) = bts (Tx.ends [beginS, versS, capT (capV b) (120 :: m) x, endS]) := by
    rw [← capText, ← bts_catC, ← bts_catC, ← bts_catC, ← bts_catC, ← bts_catC, ← bts_catC, ← bts_catC, ← bts_catC, ← bts_catC]
  rw [e]
  have hl : (Tx.ends [beginS, versS, capT (capV b) (120 :: m) x, endS]).length ≤ 20000 := by
    rw [← capText]
    simp only [List.length_append, List.length_cons, List.length_nil]
    have : (groupT (capV b)).length ≤ 3 := by cases b <;> decide
    simp only [List.length_cons] at ln
    omega
  have hr := cap_read (capV_word b) (n := 120 :: m) ⟨by simp, hN.2⟩ name_not.1 name_not.2 hv hc hl
  refine (read_any (bts (Tx.ends [beginS, versS, capT (capV b) (120 :: m) x, endS])) w hO.1 hO.2.1 hO.2.2 (by rw [Lib.size_eq]; show (Tx.ends _).length < _; omega)).mono ?_
  unfold ReadsV
  rw [show (bts (Tx.ends [beginS, versS, capT (capV b) (120 :: m) x, endS])).data.toList = Tx.ends [beginS, versS, capT (capV b) (120 :: m) x, endS] from rfl, hr]
  rintro e w' ⟨⟨u, rfl, hu⟩, hb⟩
  exact ⟨⟨u, rfl, hu⟩, hb⟩
set_option maxHeartbeats 8000000 in
set_option maxRecDepth 100000 in
theorem vcardCapitals_any (name value : ByteArray) (group : Bool) (w : World) (hO : Okw w) : Calls Tryz.prog 5 #[.string name, .string value, .bool group] w (Holds w) := by
  have HA := Lib.hid (fun (W : World) h => awake_any W h)
  by_cases hbig : 100 < value.size
  · have hA0 := HA.out w hO
    clear hO
    go_enter Tryz.func5, Tryz.ntmps5
    go_wp2_with fail
    refine hA0.mono ?_
    rintro e w1 ⟨rfl, b1⟩
    go_wp2_with fail
    go_ret
    exact ⟨rfl, b1⟩
  have hv100 : value.size ≤ 100 := by omega
  have HOK := Lib.hid (fun (W : World) (h : Below w.heap.size w W) => hO.below h)
  have HPL := Lib.hid (fun (W : World) => playLine_any value 100 W (by omega))
  have hseq : ∀ q : Nat, q < 8 → wc (seqB.data.toList.getD q 0) = true := by decide
  have HSQ := Lib.hid hseq
  have HN0 : Hid ((⟨#[120]⟩ : ByteArray).data.toList.head? = some 120 ∧ (∀ c ∈ (⟨#[120]⟩ : ByteArray).data.toList, wc c = true)) := ⟨rfl, by decide⟩
  have HB0 : Hid (Below w.heap.size w w) := Below.refl _ _
  clear hO hseq
  go_enter Tryz.func5, Tryz.ntmps5
  go_wp2_with fail
  go_loopw [7, 8] (fun nv iv wr => ∃ (k : Nat) (N : ByteArray), nv = .string N ∧ iv = .int .i64 k ∧ k ≤ name.size ∧ k ≤ 10 ∧ N.size = k + 1 ∧ Hid (N.data.toList.head? = some 120 ∧ (∀ c ∈ N.data.toList, wc c = true)) ∧ Hid (Below w.heap.size w wr)) (fun _ iv _ => 10 - (intOf iv).toNat)
  case atStart => exact ⟨0, _, rfl, rfl, Nat.zero_le _, Nat.zero_le _, rfl, HN0, HB0⟩
  case round =>
    obtain ⟨k, N, rfl, rfl, hk, hk10, hN, HNF, HB⟩ := hrel
    by_cases hgo : k < name.size ∧ k < 10
    · obtain ⟨hlt, hlt10⟩ := hgo
      have hnk : name[k].toNat < 256 := name[k].toNat_lt
      obtain ⟨q, hq, hq8⟩ : ∃ q : Nat, (wrap64 ((name[k].toNat : Nat) : Int)).tmod 8 = (q : Int) ∧ q < 8 := ⟨name[k].toNat % 8, by
        have e := wrap_u8 hnk
        rw [e, Int.tmod_eq_emod_of_nonneg (by omega)]
        omega, by omega⟩
      have hq80 : (q : Int) < 8 := by omega
      have hob := one_back wr
      have hqs : q < seqB.size := hq8
      have hw := seq_word q hqs
      have HNX := Lib.hid (name_more HNF.out hw)
      have hsz := name_size N seqB[q]
      have HSZ := Lib.hid hsz
      have HB2 : Hid (Below w.heap.size w (wr.alloc (.cells #[.int .u8 ((seqB[q]).toNat : Nat)] 5))) := HB.out.alloc HB.out.size _
      have hN11 : N.size ≤ 11 := by omega
      clear hw hnk hsz
      go_wp2_with fail
      go_roundw
      case rel => exact ⟨k + 1, _, rfl, by go_num, by omega, by omega, HSZ.out.trans (by omega), HNX, HB2⟩
      case measure => simp [intOf]; omega
    · obtain ⟨w1, rfl⟩ : ∃ w1, w1 = wr := ⟨_, rfl⟩
      have hN11 : N.size ≤ 11 := by omega
      have hcv := Lib.run_convert_string_bytes (P := Tryz.prog) w1 9 35 5 N Tryz.underlying9 Tryz.underlying35 Tryz.underlying5
      obtain ⟨cap, hcap⟩ : ∃ cap, grownCap w1 N.size 0 5 = cap := ⟨_, rfl⟩
      rw [hcap] at hcv
      obtain ⟨W3, hW3⟩ : ∃ W3, Lib.bytesWorld w1 5 N = W3 := ⟨_, rfl⟩
      have b3 : Below w1.heap.size w1 W3 := by rw [← hW3]; exact Lib.bytesWorld_below _ _ _
      have r3 := Row8.new w1 N
      rw [hW3] at hcv r3
      obtain ⟨g, hg⟩ : ∃ g, w1.heap.size = g := ⟨_, rfl⟩
      have hgw : w.heap.size ≤ g := by rw [← hg]; exact HB.out.size
      have HB3 : Hid (Below w.heap.size w W3) := HB.out.trans (b3.mono HB.out.size)
      rw [hg] at hcv b3 r3
      obtain ⟨l, hl⟩ : ∃ l, N.data.toList = l := ⟨_, rfl⟩
      have hsz : N.size = l.length := by rw [Lib.size_eq, hl]
      rw [hl] at r3
      obtain ⟨n, hn⟩ : ∃ n, N.size = n := ⟨_, rfl⟩
      have HN : Hid (l.length = n) := by unfold Hid; rw [← hsz, hn]
      have HL := Lib.hid hl
      have HNS := Lib.hid hN11
      have R0 : Hid (Row8 W3 g (upK l 0)) := r3
      have B0 : Hid (Below g W3 W3) := Below.refl _ _
      have hn2 : n ≤ 11 := by omega
      rw [hn] at hcv
      clear hcap hW3 b3 r3 hl hsz hg HB
      have hcase : (k < name.size ∧ ¬ k < 10) ∨ ¬ k < name.size := by omega
      have hgo2 : Hid (¬(k < name.size ∧ k < 10)) := hgo
      clear hgo
      rcases hcase with ⟨hc1, hc2⟩ | hc1
      all_goals
        go_wp2_with fail
        go_loopw [46] (fun iv wr => ∃ (k : Nat), iv = .int .i64 k ∧ k ≤ n ∧ Hid (Row8 wr g (upK l k)) ∧ Hid (Below g W3 wr)) (fun iv _ => n - (intOf iv).toNat)
        case atStart => exact ⟨0, rfl, Nat.zero_le _, R0, B0⟩
        case round =>
          obtain ⟨k, rfl, hk, HR, HB⟩ := hrel
          by_cases hlt : k < n
          · obtain ⟨c, hc⟩ : ∃ c, l[k]? = some c := ⟨_, List.getElem?_eq_getElem (by rw [HN.out]; exact hlt)⟩
            have hc2 := HR.out.cell (upK_get hc)
            have hf := HR.out.free (j := k) (by rw [upK_len, HN.out]; exact hlt)
            by_cases hm : (97 : Int) ≤ (c.toNat : Nat) ∧ ((c.toNat : Nat) : Int) ≤ 122
            · obtain ⟨m1, m2⟩ := hm
              have hr := HR.out.put (k := k) (upC c)
              rw [← upK_next hc, upC_low m1 m2] at hr
              have HR2 := Lib.hid hr
              have HB2 : Hid (Below g W3 (wr.setCell ⟨g, k, none⟩ (.int .u8 ((c.toNat : Nat) - 32)))) := HB.out.setCell (p := ⟨g, k, none⟩) (Nat.le_refl _) _
              clear hr hc
              go_wp2_with fail
              go_roundw
              case rel => exact ⟨k + 1, by go_num, by omega, HR2, HB2⟩
              case measure => simp [intOf]; omega
            · have hr : Hid (Row8 wr g (upK l (k + 1))) := by unfold Hid; rw [upK_same hc (upC_not hm)]; exact HR.out
              clear hc
              by_cases m1 : (97 : Int) ≤ (c.toNat : Nat)
              · have m2 : ¬ ((c.toNat : Nat) : Int) ≤ 122 := fun h => hm ⟨m1, h⟩
                go_wp2_with fail
                go_roundw
                case rel => exact ⟨k + 1, by go_num, by omega, hr, HB⟩
                case measure => simp [intOf]; omega
              · go_wp2_with fail
                go_roundw
                case rel => exact ⟨k + 1, by go_num, by omega, hr, HB⟩
                case measure => simp [intOf]; omega
          · obtain rfl : k = n := by omega
            have hfin := HR.out
            rw [← HN.out, upK_full] at hfin
            have HF := Lib.hid hfin
            have HBW : Hid (Below w.heap.size w wr) := HB3.out.trans (HB.out.mono hgw)
            have hpl := HPL.out wr
            have HPL2 := Lib.hid hpl
            clear hfin hpl
            go_wp2_with fail
            refine HPL2.out.mono ?_
            rintro e w5 ⟨⟨v, rfl, v1, v2, v3⟩, b5⟩
            have HB5 : Hid (Below w.heap.size w w5) := HBW.out.trans (b5.mono HBW.out.size)
            have HF5 := Lib.hid (HF.out.below b5)
            have V1 := Lib.hid v1
            have V2 := Lib.hid v2
            have v100 : v.size ≤ 100 := by omega
            have V3 := Lib.hid v100
            clear v1 v2 v3 b5
            have hcc := cap_calls group N v w5 (HOK.out w5 HB5.out) HNF.out HNS.out V1.out V2.out V3.out
            rw [HL.out] at hcc
            obtain ⟨x, hx⟩ : ∃ x, v.data.toList = x := ⟨_, rfl⟩
            rw [hx] at hcc
            have HX := Lib.hid hx
            have HCC := Lib.hid hcc
            clear hcc hx
            have hEN : bts l = N := by rw [← HL.out]
            have hEX : bts x = v := by rw [← HX.out]
            have HMW : Hid (∀ (W : World), ReadV (((W.alloc (.cells #[.string (bts (up l)), .string N] 38)).alloc (.cells #[.string (bts (capV group)), .string (bts (up l)), .slice (some ⟨W.heap.size, 0, none⟩) 1 1, .string v] 41)).alloc (.cells #[.slice (some ⟨W.heap.size + 1, 0, none⟩) 1 1] 25)) (.slice (some ⟨W.heap.size + 1 + 1, 0, none⟩) 1 1) [[(capV group, up l, [(up l, l)], x)]]) := fun W => by
              have := made_want W (capV group) (up l) l x
              rwa [hEN, hEX] at this
            have HSM : Hid (∀ (u1 u2 : Value) (W : World), ReadV W u1 [[(capV group, up l, [(up l, l)], x)]] → ReadV W u2 [[(capV group, up l, [(up l, l)], x)]] → Calls Tryz.prog 12 #[u1, u2, .func (.func 13) #[] #[]] W fun e w' => e = .returned (.bool true) ∧ Below W.heap.size W w') := fun u1 u2 W h1 h2 => by
              have hf : Fews [[(capV group, up l, [(up l, l)], x)]] := fun c hc => by
                rw [List.mem_singleton] at hc
                subst hc
                refine ⟨by simp, fun t ht => ?_⟩
                rw [List.mem_singleton] at ht
                subst ht
                simp
              have := sameV_any u1 u2 _ _ W h1 h2 (by simp) (by simp) hf hf
              rwa [decide_eq_true rfl] at this
            clear hEN hEX
            cases group
            · go_wp2_with fail
              refine HCC.out.mono ?_
              rintro e w6 ⟨⟨u, rfl, hu⟩, b6⟩
              have HB6 : Hid (Below w.heap.size w w6) := HB5.out.trans (b6.mono HB5.out.size)
              have HU := Lib.hid hu
              have hbk := (HF5.out.below b6).back (cap := cap) (show (up l).length = k by unfold up; rw [List.length_map, HN.out])
              clear hu b6
              go_upto_region 21 with fail
              have HMW2 := HMW.out w6
              rw [show bts (capV false) = ⟨#[]⟩ from rfl] at HMW2
              have hb9 : Below w6.heap.size w6 (((w6.alloc (.cells #[.string (bts (up l)), .string N] 38)).alloc (.cells #[.string ⟨#[]⟩, .string (bts (up l)), .slice (some ⟨w6.heap.size, 0, none⟩) 1 1, .string v] 41)).alloc (.cells #[.slice (some ⟨w6.heap.size + 1, 0, none⟩) 1 1] 25)) := (((Below.refl _ _).alloc (Nat.le_refl _) _).alloc (by rw [World.size_alloc]; omega) _).alloc (by rw [World.size_alloc, World.size_alloc]; omega) _
              have hua := HU.out.below hb9
              obtain ⟨W9, hW9⟩ : ∃ W9, (((w6.alloc (.cells #[.string (bts (up l)), .string N] 38)).alloc (.cells #[.string ⟨#[]⟩, .string (bts (up l)), .slice (some ⟨w6.heap.size, 0, none⟩) 1 1, .string v] 41)).alloc (.cells #[.slice (some ⟨w6.heap.size + 1, 0, none⟩) 1 1] 25)) = W9 := ⟨_, rfl⟩
              rw [hW9] at HMW2 hb9 hua
              have HB9 : Hid (Below w.heap.size w W9) := HB6.out.trans (hb9.mono HB6.out.size)
              obtain ⟨y, hy⟩ : ∃ y, w6.heap.size + 1 + 1 = y := ⟨_, rfl⟩
              rw [hy] at HMW2
              have HM9 := Lib.hid HMW2
              have HU9 := Lib.hid hua
              simp only [hW9, hy]
              clear hW9 hy HMW2 hb9 hua
              go_wp2_with fail
              refine (HA.out W9 (HOK.out W9 HB9.out)).mono ?_
              rintro e w10 ⟨rfl, b10⟩
              have HB10 : Hid (Below w.heap.size w w10) := HB9.out.trans (b10.mono HB9.out.size)
              have hs10 := Lib.hid (HSM.out _ _ w10 (HU9.out.below b10) (HM9.out.below b10))
              clear b10
              go_wp2_with fail
              refine hs10.out.mono ?_
              rintro e w11 ⟨rfl, b11⟩
              go_wp2_with fail
              go_ret
              exact ⟨rfl, HB10.out.trans (b11.mono HB10.out.size)⟩
            · go_wp2_with fail
              refine HCC.out.mono ?_
              rintro e w6 ⟨⟨u, rfl, hu⟩, b6⟩
              have HB6 : Hid (Below w.heap.size w w6) := HB5.out.trans (b6.mono HB5.out.size)
              have HU := Lib.hid hu
              have hbk := (HF5.out.below b6).back (cap := cap) (show (up l).length = k by unfold up; rw [List.length_map, HN.out])
              clear hu b6
              go_upto_region 21 with fail
              have HMW2 := HMW.out w6
              rw [show bts (capV true) = ⟨#[103, 82]⟩ from rfl] at HMW2
              have hb9 : Below w6.heap.size w6 (((w6.alloc (.cells #[.string (bts (up l)), .string N] 38)).alloc (.cells #[.string ⟨#[103, 82]⟩, .string (bts (up l)), .slice (some ⟨w6.heap.size, 0, none⟩) 1 1, .string v] 41)).alloc (.cells #[.slice (some ⟨w6.heap.size + 1, 0, none⟩) 1 1] 25)) := (((Below.refl _ _).alloc (Nat.le_refl _) _).alloc (by rw [World.size_alloc]; omega) _).alloc (by rw [World.size_alloc, World.size_alloc]; omega) _
              have hua := HU.out.below hb9
              obtain ⟨W9, hW9⟩ : ∃ W9, (((w6.alloc (.cells #[.string (bts (up l)), .string N] 38)).alloc (.cells #[.string ⟨#[103, 82]⟩, .string (bts (up l)), .slice (some ⟨w6.heap.size, 0, none⟩) 1 1, .string v] 41)).alloc (.cells #[.slice (some ⟨w6.heap.size + 1, 0, none⟩) 1 1] 25)) = W9 := ⟨_, rfl⟩
              rw [hW9] at HMW2 hb9 hua
              have HB9 : Hid (Below w.heap.size w W9) := HB6.out.trans (hb9.mono HB6.out.size)
              obtain ⟨y, hy⟩ : ∃ y, w6.heap.size + 1 + 1 = y := ⟨_, rfl⟩
              rw [hy] at HMW2
              have HM9 := Lib.hid HMW2
              have HU9 := Lib.hid hua
              simp only [hW9, hy]
              clear hW9 hy HMW2 hb9 hua
              go_wp2_with fail
              refine (HA.out W9 (HOK.out W9 HB9.out)).mono ?_
              rintro e w10 ⟨rfl, b10⟩
              have HB10 : Hid (Below w.heap.size w w10) := HB9.out.trans (b10.mono HB9.out.size)
              have hs10 := Lib.hid (HSM.out _ _ w10 (HU9.out.below b10) (HM9.out.below b10))
              clear b10
              go_wp2_with fail
              refine hs10.out.mono ?_
              rintro e w11 ⟨rfl, b11⟩
              go_wp2_with fail
              go_ret
              exact ⟨rfl, HB10.out.trans (b11.mono HB10.out.size)⟩
end Go.Proofs.YtphopnfnjnieaaaGreatDoor
