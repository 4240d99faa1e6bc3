/-
  THE LAW FoldRows: it answers true, whatever it is handed.
-/
import Derived.Test.YtjdpdkghfbaddaaDoorFoL2
import Derived.Test.YtjdpdkghfbaddaaDoorFldB
namespace Go.Proofs.YtjdpdkghfbaddaaDoor
open Go.RowKit Tx

theorem fil_map (c : UInt8) (n : Nat) : fil (c.toNat : Int) n n = (List.replicate n c).map fun c : UInt8 => Value.int .u8 (c.toNat : Int) := by rw [fil_full, List.map_replicate]
theorem sign_line (c : UInt8) (h1 : 97 ≤ c.toNat) (h2 : c.toNat ≤ 122) (n : Nat) : Fine (List.replicate n c) := by
  have hne : ∀ d : UInt8, d.toNat < 97 → c ≠ d := fun d hd e => by rw [e] at h1; omega
  refine ⟨fun x hx => ?_, ?_, ?_⟩
  · rw [List.eq_of_mem_replicate hx]
    exact ⟨hne _ (by decide), hne _ (by decide)⟩
  · refine valid_rep c ?_ n
    have hs : sane c.toNat := .inl (by omega)
    have he : enc c.toNat = [c] := by rw [enc_low (by omega)]; simp
    have := ch_enc hs (by unfold okc; simp; omega)
    rw [he] at this
    exact valid_some this
  · cases n with
    | zero => rfl
    | succ n =>
      rw [List.replicate_succ]
      show (c == 32 || c == 9) = false
      have e1 : (c == 32) = false := by simpa using hne 32 (by decide)
      have e2 : (c == 9) = false := by simpa using hne 9 (by decide)
      rw [e1, e2]; rfl
theorem sign_fold (c : UInt8) (h1 : 97 ≤ c.toNat) (h2 : c.toNat ≤ 122) (n : Nat) : (foldL [List.replicate n c]).length + 1 = n + 3 * nr 75 n ∧ (foldL [List.replicate n c]).count 10 = nr 75 n := by
  have e : foldL [List.replicate n c] = fr 75 (List.replicate n [c]) := by
    unfold foldL
    rw [List.flatMap_cons, List.flatMap_nil, List.append_nil, foldOne_fr, chs_signs c (by omega)]
  rw [e]
  exact fr_signs c (fun e => by rw [e] at h1; exact absurd h1 (by decide)) n 75
theorem count_next {l : List UInt8} {k : Nat} {c : UInt8} (h : l[k]? = some c) : (l.take (k + 1)).count 10 = (l.take k).count 10 + (if c = 10 then 1 else 0) := by
  rw [List.take_add_one, h, Option.toList_some, List.count_append, List.count_singleton]
  by_cases hc : c = 10
  · subst hc; rfl
  · rw [if_neg hc]
    simp [hc]

set_option maxHeartbeats 4000000 in
set_option maxRecDepth 100000 in
theorem foldRows_any (n0 c0 : Int) (w : World) (hO : Okw w) (hc0 : 0 ≤ c0) (hc1 : c0 < 256) : Calls Tryd.prog 7 #[.int .i64 n0, .int .u8 c0] w (Holds w) := by
  have HA := Lib.hid (fun (W : World) h => awake_any W h)
  have HOK := Lib.hid (fun (W : World) (h : Below w.heap.size w W) => hO.below h)
  obtain ⟨m, hm, hm2⟩ := uintMod n0 400 (by omega) (by omega)
  obtain ⟨z, hz⟩ : ∃ z : Int, 97 + c0 % 26 = z := ⟨_, rfl⟩
  have hz1 : 97 ≤ z := by omega
  have hz2 : z ≤ 122 := by omega
  obtain ⟨c, hc⟩ : ∃ c : UInt8, (c.toNat : Int) = z := ⟨UInt8.ofNat z.toNat, by rw [UInt8.toNat_ofNat']; omega⟩
  have HC := Lib.hid hc
  obtain ⟨s1, s2⟩ := sign_fold c (by omega) (by omega) m
  have hfine := sign_line c (by omega) (by omega) m
  obtain ⟨T, hT⟩ : ∃ T : ByteArray, ⟨(List.replicate m c).toArray⟩ = T := ⟨_, rfl⟩
  have hTl : T.data.toList = List.replicate m c := by rw [← hT]
  have hTs : T.size = m := by rw [Lib.size_eq, hTl, List.length_replicate]
  have hbts : bts [T] = [List.replicate m c] := by simp [bts, hTl]
  obtain ⟨F, hF⟩ : ∃ F : ByteArray, ⟨(foldL [List.replicate m c]).toArray⟩ = F := ⟨_, rfl⟩
  have hFl : F.data.toList = foldL [List.replicate m c] := by rw [← hF]
  have hnr := nr_eq m 75
  obtain ⟨R, hR⟩ : ∃ R, nr 75 m = R := ⟨_, rfl⟩
  rw [hR] at s1 s2 hnr
  have hFs : F.size + 1 = m + 3 * R := by rw [Lib.size_eq, hFl]; exact s1
  have hF10 : F.data.toList.count 10 = R := by rw [hFl]; exact s2
  have hun := fold_unfold (m := [List.replicate m c]) (fun l hl => by rw [List.mem_singleton] at hl; subst hl; exact hfine)
  have hR1 : R ≤ 10 := by rw [hnr]; split <;> omega
  have huf : unfA F.data.toList = ([List.replicate m c], 0) := unfA_ok (by rw [← Lib.size_eq]; omega) (by rw [hFl]; exact hun.2) (by rw [hFl]; exact hun.1)
  have hst : sts [List.replicate m c] = [T] := by rw [← hT]; rfl
  have HFo := Lib.hid (fun (v : Value) (W : World) h1 h2 => fold_any v [T] W h1 h2 (by simp [bulk]; omega))
  rw [hbts, hF] at HFo
  have HUn := Lib.hid (fun (W : World) h1 h2 => unfold_any F W h1 h2 (by omega))
  have HUF := Lib.hid huf
  have HST := Lib.hid hst
  have HF10 := Lib.hid hF10
  have HFS := Lib.hid hFs
  have HNR := Lib.hid hnr
  have hFz := Lib.hid (Lib.size_eq F)
  have HTL := Lib.hid hTl
  obtain ⟨i0, hi, hz0, hz1', hz2'⟩ := info_parts infoU8
  have HMk := Lib.hid (fun (W : World) => run_make_full (P := Tryd.prog) W W.heap.size 36 5 i0 _ 1 Tryd.underlying36 hi hz0 hz1' .i64 .i64 m (by rw [hz2']; omega) (by unfold maxLen; omega) (Nat.le_refl _))
  have HBs := Lib.hid (fun (W : World) (g o cap n : Nat) (p : List UInt8) h1 h2 => bytesStr (P := Tryd.prog) Tryd.underlying36 Tryd.underlying5 Tryd.underlying9 W g o cap n p h1 h2)
  have HPl := Lib.hid plainT_any
  obtain ⟨w3, hmk, hown0, hgr⟩ := HMk.out w
  have c3 : Below w.heap.size w w3 := (Below.refl _ _).grown hgr (Nat.le_refl _) (fun k hk => by cases hk)
  obtain ⟨g, hg⟩ : ∃ g, w.heap.size = g := ⟨_, rfl⟩
  have HG := Lib.hid hg
  rw [hg] at hmk hown0 c3 HOK
  have ho0 : Hid (OwnB g w3 g m (fil z m 0)) := by
    unfold Hid OwnB
    rw [fil_zero, ← made_list]
    exact hown0
  clear hown0 hgr hc s1 s2 hfine hT hTl hbts hF hFl hnr hR hF10 hun huf hst hO
  go_enter Tryd.func7, Tryd.ntmps7
  go_wp2_with fail
  go_loopw [21] (fun at_ wr => ∃ (k : Nat), k ≤ m ∧ at_ = .int .i64 k ∧ Hid (OwnB g wr g m (fil z m k)) ∧ Below g w wr) (fun at_ _ => m - (intOf at_).toNat)
  case atStart => exact ⟨0, Nat.zero_le _, rfl, ho0, c3⟩
  case round =>
    obtain ⟨k, hk, rfl, hown, hb⟩ := hrel
    by_cases hlt : k < m
    · obtain ⟨y, hy⟩ := fil_get (z := z) hlt
      obtain ⟨k0, k1, _, k3⟩ := hown.out.at hy
      have hn := Lib.hid (hown.out.put k (.int .u8 z))
      rw [fil_set hlt] at hn
      clear hy
      go_wp2_with fail
      go_roundw
      case rel => exact ⟨k + 1, by omega, by go_num, hn, hb.setCell (p := ⟨g, k, none⟩) (Nat.le_refl _) _⟩
      case measure => simp [intOf]; omega
    · obtain rfl : k = m := by omega
      have ho := hown.out
      rw [← HC.out, fil_map] at ho
      have hCV : Hid (∀ W, (∀ j, W.cell? ⟨g, j, none⟩ = wr.cell? ⟨g, j, none⟩) → (convert 36 9 (.slice (some ⟨g, 0, none⟩) k k)).run Tryd.prog W = .ok (.string T) W) := fun W hW => by
        rw [HBs.out W g 0 k k (List.replicate k c) (by simp) (fun j x hx => by
          rw [Nat.zero_add, hW j]
          exact (ho.at (j := j) (by rw [List.getElem?_map, hx]; rfl)).1)]
        rw [bytes_of HTL.out]
      have hcv1 := hCV.out wr (fun j => rfl)
      have hgl : g < wr.heap.size := (World.ownsRow.lt (show wr.ownsRow g 5 1 (.slice (some ⟨g, 0, none⟩) k k) k _ from ho) g rfl).2
      clear ho hlt
      go_wp2_with fail
      have r0 : ReadT (wr.alloc (.cells #[.string T] 9)).heap.size (wr.alloc (.cells #[.string T] 9)) (.slice (some ⟨wr.heap.size, 0, none⟩) 1 1) [T] :=
        ReadT.made (x := [T]) (o := 0) rfl (by simp) (fun i b hb => by
          match i, hb with
          | 0, hb =>
            cases hb
            exact cell_of_row _ _ 0 _ 9 (0, 0) (heap_alloc_new wr _))
      have c4 : Below g w (wr.alloc (.cells #[.string T] 9)) := hb.alloc (by omega) _
      have b4 : Below wr.heap.size wr (wr.alloc (.cells #[.string T] 9)) := (Below.refl _ _).alloc (Nat.le_refl _) _
      refine (HFo.out _ _ (HOK.out _ c4).1 r0).mono ?_
      rintro e w5 ⟨rfl, b5⟩
      have c5 : Below g w w5 := c4.trans (b5.mono (by simp; omega))
      have d5 : Hid (Below wr.heap.size wr w5) := b4.trans (b5.mono b4.size)
      clear r0 b4 b5 c4 hcv1
      by_cases h75 : 75 < k
      · go_wp2_with fail
        go_loop [9, 10] (fun ev at_ => ∃ (j : Nat), j ≤ F.size ∧ ev = .int .i64 (((F.data.toList.take j).count 10 : Nat) : Int) ∧ at_ = .int .i64 j) (fun _ at_ => F.size - (intOf at_).toNat)
        case atStart => exact ⟨0, Nat.zero_le _, rfl, rfl⟩
        case round =>
          obtain ⟨j, hj, rfl, rfl⟩ := hrel
          have hcl := List.count_le_length (a := (10 : UInt8)) (l := F.data.toList.take j)
          rw [List.length_take] at hcl
          by_cases hlj : j < F.size
          · have hck := Lib.data_getElem? F j hlj
            have hnx := count_next hck
            obtain ⟨y, hy⟩ : ∃ y : Int, ((F[j]'hlj).toNat : Int) = y := ⟨_, rfl⟩
            obtain ⟨q, hq⟩ : ∃ q, (F.data.toList.take j).count 10 = q := ⟨_, rfl⟩
            rw [hq] at hnx hcl ⊢
            by_cases h10 : (F[j]'hlj) = 10
            · rw [if_pos h10] at hnx
              obtain rfl : y = 10 := by rw [← hy, h10]; rfl
              have HNX := Lib.hid hnx
              clear hck hnx h10 hq
              go_wp2_with fail
              go_round
              case rel => exact ⟨j + 1, by omega, by rw [HNX.out]; go_num, by go_num⟩
              case measure => simp [intOf]; omega
            · rw [if_neg h10] at hnx
              have f10 : (y == 10) = false := byte_ne hy h10
              have HNX := Lib.hid hnx
              clear hck hnx h10 hq
              go_wp2_with fail
              go_round
              case rel => exact ⟨j + 1, by omega, by rw [HNX.out]; rfl, by go_num⟩
              case measure => simp [intOf]; omega
          · have hjF : (F.data.toList.take j).count 10 = R := by rw [List.take_of_length_le (by rw [← hFz.out]; omega), HF10.out]
            rw [hjF]
            clear hjF hcl
            go_wp2_with fail
            refine (HUn.out w5 (HOK.out w5 c5).1 (HOK.out w5 c5).2).mono ?_
            rintro e w6 ⟨v6, rfl, hv6, b6⟩
            rw [HUF.out, HST.out] at hv6
            rw [HUF.out]
            have HV6 := Lib.hid hv6
            have c6 : Below g w w6 := c5.trans (b6.mono (by have := d5.out.size; omega))
            have d6 : Hid (Below wr.heap.size wr w6) := d5.out.trans (b6.mono d5.out.size)
            clear hv6
            go_wp2_with fail
            refine (HA.out w6 (HOK.out w6 c6)).mono ?_
            rintro e w7 ⟨rfl, b7⟩
            have c7 : Below g w w7 := c6.trans (b7.mono (by have := d6.out.size; omega))
            have d7 : Hid (Below wr.heap.size wr w7) := d6.out.trans (b7.mono d6.out.size)
            have HV7 := Lib.hid (HV6.out.below b7)
            have z7 := b7.size
            have hcv7 := hCV.out w7 (fun j => d7.out.cell (p := ⟨g, j, none⟩) hgl)
            have hRR : (1 : Int) + ((k : Int) - 2) / 74 = (R : Int) := by
              have := HNR.out
              rw [if_neg (by omega)] at this
              omega
            have hLL : (F.size : Int) = (k : Int) + 2 * (R : Int) + (R : Int) - 1 := by have := HFS.out; omega
            clear b7
            go_wp2_with fail
            have r1 : ReadT (w7.heap.size + 1) (w7.alloc (.cells #[.string T] 9)) v6 [T] := (HV7.out.below ((Below.refl _ _).alloc z7 _)).more (by omega)
            have r2 : ReadT (w7.heap.size + 1) (w7.alloc (.cells #[.string T] 9)) (.slice (some ⟨w7.heap.size, 0, none⟩) 1 1) [T] := by
              have := ReadT.made (w := w7.alloc (.cells #[.string T] 9)) (g := w7.heap.size) (cap := 1) (n := 1) (o := 0) (x := [T]) rfl (by simp) (fun i b hb => by
                match i, hb with
                | 0, hb =>
                  cases hb
                  exact cell_of_row _ _ 0 _ 9 (0, 0) (heap_alloc_new w7 _))
              rwa [World.size_alloc] at this
            refine (HPl.out (w7.heap.size + 1) v6 _ [T] [T] _ r1 r2 (by simp) (by simp)).mono ?_
            rintro e w8 ⟨rfl, b8⟩
            have c8 : Below g w w8 := (c7.alloc (by have := d7.out.size; omega) _).trans (b8.mono (by simp; have := d7.out.size; omega))
            rw [decide_eq_true (rfl : [T] = [T])]
            clear r1 r2
            go_wp2_with fail
            go_ret
            exact ⟨rfl, by rw [HG.out]; exact c8⟩
      · go_wp2_with fail
        go_loop [9, 10] (fun ev at_ => ∃ (j : Nat), j ≤ F.size ∧ ev = .int .i64 (((F.data.toList.take j).count 10 : Nat) : Int) ∧ at_ = .int .i64 j) (fun _ at_ => F.size - (intOf at_).toNat)
        case atStart => exact ⟨0, Nat.zero_le _, rfl, rfl⟩
        case round =>
          obtain ⟨j, hj, rfl, rfl⟩ := hrel
          have hcl := List.count_le_length (a := (10 : UInt8)) (l := F.data.toList.take j)
          rw [List.length_take] at hcl
          by_cases hlj : j < F.size
          · have hck := Lib.data_getElem? F j hlj
            have hnx := count_next hck
            obtain ⟨y, hy⟩ : ∃ y : Int, ((F[j]'hlj).toNat : Int) = y := ⟨_, rfl⟩
            obtain ⟨q, hq⟩ : ∃ q, (F.data.toList.take j).count 10 = q := ⟨_, rfl⟩
            rw [hq] at hnx hcl ⊢
            by_cases h10 : (F[j]'hlj) = 10
            · rw [if_pos h10] at hnx
              obtain rfl : y = 10 := by rw [← hy, h10]; rfl
              have HNX := Lib.hid hnx
              clear hck hnx h10 hq
              go_wp2_with fail
              go_round
              case rel => exact ⟨j + 1, by omega, by rw [HNX.out]; go_num, by go_num⟩
              case measure => simp [intOf]; omega
            · rw [if_neg h10] at hnx
              have f10 : (y == 10) = false := byte_ne hy h10
              have HNX := Lib.hid hnx
              clear hck hnx h10 hq
              go_wp2_with fail
              go_round
              case rel => exact ⟨j + 1, by omega, by rw [HNX.out]; rfl, by go_num⟩
              case measure => simp [intOf]; omega
          · have hjF : (F.data.toList.take j).count 10 = R := by rw [List.take_of_length_le (by rw [← hFz.out]; omega), HF10.out]
            rw [hjF]
            clear hjF hcl
            go_wp2_with fail
            refine (HUn.out w5 (HOK.out w5 c5).1 (HOK.out w5 c5).2).mono ?_
            rintro e w6 ⟨v6, rfl, hv6, b6⟩
            rw [HUF.out, HST.out] at hv6
            rw [HUF.out]
            have HV6 := Lib.hid hv6
            have c6 : Below g w w6 := c5.trans (b6.mono (by have := d5.out.size; omega))
            have d6 : Hid (Below wr.heap.size wr w6) := d5.out.trans (b6.mono d5.out.size)
            clear hv6
            go_wp2_with fail
            refine (HA.out w6 (HOK.out w6 c6)).mono ?_
            rintro e w7 ⟨rfl, b7⟩
            have c7 : Below g w w7 := c6.trans (b7.mono (by have := d6.out.size; omega))
            have d7 : Hid (Below wr.heap.size wr w7) := d6.out.trans (b7.mono d6.out.size)
            have HV7 := Lib.hid (HV6.out.below b7)
            have z7 := b7.size
            have hcv7 := hCV.out w7 (fun j => d7.out.cell (p := ⟨g, j, none⟩) hgl)
            have hRR : (1 : Int) = (R : Int) := by
              have := HNR.out
              rw [if_pos (by omega)] at this
              omega
            have hLL : (F.size : Int) = (k : Int) + 2 * (R : Int) + (R : Int) - 1 := by have := HFS.out; omega
            clear b7
            go_wp2_with fail
            have r1 : ReadT (w7.heap.size + 1) (w7.alloc (.cells #[.string T] 9)) v6 [T] := (HV7.out.below ((Below.refl _ _).alloc z7 _)).more (by omega)
            have r2 : ReadT (w7.heap.size + 1) (w7.alloc (.cells #[.string T] 9)) (.slice (some ⟨w7.heap.size, 0, none⟩) 1 1) [T] := by
              have := ReadT.made (w := w7.alloc (.cells #[.string T] 9)) (g := w7.heap.size) (cap := 1) (n := 1) (o := 0) (x := [T]) rfl (by simp) (fun i b hb => by
                match i, hb with
                | 0, hb =>
                  cases hb
                  exact cell_of_row _ _ 0 _ 9 (0, 0) (heap_alloc_new w7 _))
              rwa [World.size_alloc] at this
            refine (HPl.out (w7.heap.size + 1) v6 _ [T] [T] _ r1 r2 (by simp) (by simp)).mono ?_
            rintro e w8 ⟨rfl, b8⟩
            have c8 : Below g w w8 := (c7.alloc (by have := d7.out.size; omega) _).trans (b8.mono (by simp; have := d7.out.size; omega))
            rw [decide_eq_true (rfl : [T] = [T])]
            clear r1 r2
            go_wp2_with fail
            go_ret
            exact ⟨rfl, by rw [HG.out]; exact c8⟩
end Go.Proofs.YtjdpdkghfbaddaaDoor
