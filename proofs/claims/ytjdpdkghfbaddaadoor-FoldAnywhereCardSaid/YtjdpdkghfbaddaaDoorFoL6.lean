/-
  THE LAW FoldAnywhere: it answers true, whatever line and places it is handed.
-/
import Derived.Test.YtjdpdkghfbaddaaDoorFoAw
import Derived.Test.YtjdpdkghfbaddaaDoorFldA
import Derived.Test.YtjdpdkghfbaddaaDoorRefL
import Derived.Test.YtjdpdkghfbaddaaDoorReadD
import Derived.Test.YtjdpdkghfbaddaaDoorUint
import Derived.Test.YtjdpdkghfbaddaaDoorLines
import Derived.RegionTactic
namespace Go.Proofs.YtjdpdkghfbaddaaDoor
open Go.RowKit Tx

theorem chain_x {s : ByteArray} {cs : List Nat} (hg : ∀ c ∈ cs, sane c ∧ okc c = true ∧ 32 ≤ c) (hf : flat cs = s.data.toList) : Tx.Good (120 :: cs) ∧ flat (120 :: cs) = 120 :: s.data.toList := by
  refine ⟨fun c hc => ?_, ?_⟩
  · rcases List.mem_cons.1 hc with rfl | hc
    · exact ⟨.inl (by omega), by decide +kernel, by omega⟩
    · exact hg c hc
  · rw [show (120 :: cs : List Nat) = [120] ++ cs from rfl, flat_append, flat_one, hf, enc_low (by omega)]
    rfl
/-- how the law's loop stands: O is what the first i characters are told as -/
def AInv (cx : List Nat) (i : Nat) (O : ByteArray) : Prop := ∃ R cur, O.data.toList = ends R ++ cur ∧ AStand R cur (flat (cx.take i)) ∧ (0 < i → cur ≠ [])
theorem AInv.start (cx : List Nat) : AInv cx 0 ⟨#[]⟩ := ⟨[], [], rfl, by rw [List.take_zero, flat_nil]; exact AStand.start, fun h => absurd h (by omega)⟩
section
variable {cx : List Nat} {i c : Nat} {O E : ByteArray}
theorem AInv.push (h : AInv cx i O) (hg : Tx.Good cx) (h0 : cx[0]? = some 120) (hc : cx[i]? = some c) (hE : E.data.toList = enc c) : AInv cx (i + 1) (O ++ E) := by
  obtain ⟨R, cur, h1, h2, h3⟩ := h
  obtain ⟨g1, g2, g3⟩ := hg c (List.mem_of_getElem? hc)
  obtain ⟨e1, e2⟩ := enc_line g1 g2 g3
  refine ⟨R, cur ++ enc c, by rw [cat_list, h1, hE, List.append_assoc], ?_, fun _ h => enc_ne c (List.append_eq_nil_iff.1 h).2⟩
  rw [flat_take_next hc]
  refine h2.push e1 e2 ?_
  rcases Nat.eq_zero_or_pos i with hi | hi
  · subst hi
    rw [h0] at hc
    obtain rfl := Option.some.inj hc
    exact .inr (by rw [enc_low (by omega)]; rfl)
  · exact .inl (h3 hi)
theorem AInv.cut (h : AInv cx i O) (hg : Tx.Good cx) (hc : cx[i]? = some c) (hE : E.data.toList = enc c) {B : ByteArray} {b : UInt8} (hb : b = 32 ∨ b = 9) (hB : B.data.toList = [b]) : AInv cx (i + 1) (O ++ ⟨#[13, 10]⟩ ++ B ++ E) := by
  obtain ⟨R, cur, h1, h2, h3⟩ := h
  obtain ⟨g1, g2, g3⟩ := hg c (List.mem_of_getElem? hc)
  obtain ⟨e1, e2⟩ := enc_line g1 g2 g3
  refine ⟨R ++ [cur], [b] ++ enc c, ?_, ?_, fun _ h => by cases h⟩
  · rw [cat_list, cat_list, cat_list, h1, hE, hB, ends_append, ends_cons, ends_nil]
    simp
  · rw [flat_take_next hc]
    exact (h2.cut hb).push e1 e2 (.inl (by simp))
theorem AInv.done (h : AInv cx cx.length O) : Tx.unfold (O ++ ⟨#[13, 10]⟩ : ByteArray).data.toList = some [flat cx] ∧ valid (O ++ ⟨#[13, 10]⟩ : ByteArray).data.toList = true := by
  obtain ⟨R, cur, h1, h2, h3⟩ := h
  rw [List.take_length] at h2
  rw [cat_list, h1]
  exact h2.done
end
/-- the characters, kept where '[]rune' laid them -/
def KeepR (g N : Nat) (cx : List Nat) (w : World) : Prop := g < w.heap.size ∧ ∀ j, j < N → w.cell? ⟨g, j, none⟩ = some (.int .i32 (cx.getD j 0 : Nat))
theorem KeepR.alloc {g N : Nat} {cx : List Nat} {w : World} (h : KeepR g N cx w) (b : Obj) : KeepR g N cx (w.alloc b) :=
  ⟨by rw [World.size_alloc]; have := h.1; omega, fun j hj => by rw [World.cell?_alloc_lt _ _ _ h.1]; exact h.2 j hj⟩

set_option maxHeartbeats 4000000 in
set_option maxRecDepth 100000 in
theorem foldAnywhere_any (s : ByteArray) (l : Value) (n : Nat) (w : World) (hO : Okw w) (hs : s.size ≤ 9223372036854775807) (hl : ReadsZ w l n) (hn : n ≤ 9223372036854775807) :
    Calls Tryd.prog 8 #[.string s, l] w (Holds w) := by
  have HA := Lib.hid (fun (W : World) h => awake_any W h)
  have HOK := Lib.hid (fun (W : World) (h : Below w.heap.size w W) => hO.below h)
  obtain ⟨A, cap, rfl, hcells⟩ := hl
  have HC := Lib.hid hcells
  clear hcells
  by_cases hbig : 300 < s.size
  · clear hO
    go_enter Tryd.func8, Tryd.ntmps8
    go_wp2_with fail
    refine (HA.out _ (HOK.out _ (Below.refl _ _))).mono ?_
    rintro e w1 ⟨rfl, b1⟩
    go_wp2_with fail
    go_ret
    exact ⟨rfl, b1⟩
  have hRL := rline_any s 300 w (by omega)
  cases hln : line s.data.toList 300 with
  | false =>
    rw [hln] at hRL
    have HRL := Lib.hid hRL
    clear hO hln hRL
    go_enter Tryd.func8, Tryd.ntmps8
    go_wp2_with fail
    refine HRL.out.mono ?_
    rintro e w0 ⟨rfl, b0⟩
    go_wp2_with fail
    refine (HA.out _ (HOK.out _ b0)).mono ?_
    rintro e w1 ⟨rfl, b1⟩
    go_wp2_with fail
    go_ret
    exact ⟨rfl, b0.trans (b1.mono b0.size)⟩
  | true =>
    rw [hln] at hRL
    have HRL := Lib.hid hRL
    obtain ⟨cs, hch, hfl, hgood⟩ := line_chars hln
    obtain ⟨gx, fx⟩ := chain_x hgood hfl
    have hrl := runes_length s.data.toList
    rw [runes_some hch, ← Lib.size_eq] at hrl
    obtain ⟨S, hS⟩ : ∃ S : ByteArray, (⟨#[120]⟩ : ByteArray) ++ s = S := ⟨_, rfl⟩
    have hSl : S.data.toList = 120 :: s.data.toList := by rw [← hS, cat_list]; rfl
    have hSz : S.size = s.size + 1 := by rw [← hS, ByteArray.size_append]; show 1 + s.size = _; omega
    obtain ⟨cx, hcx⟩ : ∃ cx, (120 :: cs : List Nat) = cx := ⟨_, rfl⟩
    have hcl : cx.length ≤ 301 := by rw [← hcx]; simp; omega
    have hc0 : 0 < cx.length := by rw [← hcx]; simp
    have hcx0 : cx[0]? = some 120 := by rw [← hcx]; rfl
    rw [hcx] at gx fx
    obtain ⟨N, hN⟩ : ∃ N, cx.length = N := ⟨_, rfl⟩
    have hchS : ch S.data.toList = some cx := by rw [hSl, ← fx]; exact ch_flat gx
    have HGX := Lib.hid gx
    have HSL := Lib.hid (hSl.trans fx.symm)
    rw [hN] at hcl hc0
    have HN := Lib.hid hN
    have HCX0 := Lib.hid hcx0
    have hrf := runes_from S S.size 0 #[] cx (by omega) (by rw [List.drop_zero]; exact hchS)
    have hrs : (Conv.runesFrom S S.size 0 #[]).size = N := by rw [hrf]; simp [runeVals, hN]
    have HCV := Lib.hid (fun (W : World) => (by
      have hcv := run_runes_of_string (P := Tryd.prog) W 9 43 21 S Tryd.underlying9 Tryd.underlying43 Tryd.underlying21 (by rw [hrs]; omega)
      rw [hrs, hrf] at hcv
      exact hcv : _))
    have HS := Lib.hid hS
    clear hO hln hRL hch hfl hgood hcx hcx0 hN gx fx hrl hS hSl hchS hrf hrs
    go_enter Tryd.func8, Tryd.ntmps8
    go_wp2_with fail
    refine HRL.out.mono ?_
    rintro e w0 ⟨rfl, b0⟩
    have hcv := HCV.out w0
    have hG0 := grownCap_ge w0 N 0 21
    obtain ⟨G, hG⟩ : ∃ G, grownCap w0 N 0 21 = G := ⟨_, rfl⟩
    rw [hG] at hcv hG0
    obtain ⟨CS, hCS⟩ : ∃ CS, (#[] ++ (runeVals cx).toArray ++ Array.replicate (G - N) (Value.int .i32 0) : Array Value) = CS := ⟨_, rfl⟩
    rw [hCS] at hcv
    have HCS := Lib.hid hCS
    have hkp : Hid (∀ W : World, Bk W w0.heap.size 21 CS → KeepR w0.heap.size N cx W) := fun W hW => ⟨hW.lt, fun j hj => by
      rw [hW.cell j, ← HCS.out]
      have hl : j < cx.length := by rw [HN.out]; exact hj
      have e : (#[] ++ (runeVals cx).toArray ++ Array.replicate (G - N) (Value.int .i32 0) : Array Value)[j]? = ((runeVals cx).toArray)[j]? := by
        rw [Array.getElem?_append_left (by simp [runeVals]; exact hl)]
        simp
      rw [e]
      simp [runeVals, List.getD, List.getElem?_eq_getElem hl]⟩
    have HSx := HS.out
    clear hCS hG
    go_wp2_with fail
    go_loopw [6, 7] (fun out at_ wr => ∃ (i : Nat) (O : ByteArray), i ≤ N ∧ out = .string O ∧ at_ = .int .i64 i ∧ O.size ≤ 7 * i ∧ Hid (AInv cx i O) ∧ Hid (KeepR w0.heap.size N cx wr) ∧ Below w.heap.size w wr) (fun _ at_ _ => N - (intOf at_).toNat)
    case atStart => exact ⟨0, _, Nat.zero_le _, rfl, rfl, Nat.zero_le _, AInv.start _, hkp.out _ (Bk.new w0 _ _).drew, (b0.alloc b0.size _).drew⟩
    case round =>
      obtain ⟨i, O, hi, rfl, rfl, hOz, hinv, hkr, hb⟩ := hrel
      have hSz2 : S.size ≤ 301 := by omega
      clear hcv hG0 HSx hSz
      by_cases hlt : i < N
      · obtain ⟨c, hc⟩ : ∃ c, cx[i]? = some c := ⟨_, List.getElem?_eq_getElem (by rw [HN.out]; exact hlt)⟩
        have hcg : cx.getD i 0 = c := by rw [List.getD, hc]; rfl
        have hr0 := hkr.out.2 i hlt
        rw [hcg] at hr0
        obtain ⟨x, hx⟩ : ∃ x : Int, (c : Int) = x := ⟨_, rfl⟩
        have hEl : (Utf8.encode x).data.toList = enc c := by rw [← hx]; exact enc_model c
        have hEs : (Utf8.encode x).size ≤ 4 := by rw [Lib.size_eq, hEl]; exact enc_len.2
        have HP := Lib.hid (hinv.out.push HGX.out HCX0.out hc hEl)
        have HK := Lib.hid (fun (B : ByteArray) (b : UInt8) (h1 : b = 32 ∨ b = 9) (h2 : B.data.toList = [b]) => hinv.out.cut HGX.out hc hEl h1 h2)
        rw [hx] at hr0
        have HKR := Lib.hid (fun (b : Obj) => (by
          have h := (hkr.out.alloc b).2 i hlt
          rw [hcg, hx] at h
          exact h : _))
        clear hc hcg hEl hx
        go_wp2_with fail
        go_loop [6, 8] (fun ov kv => ∃ (k : Nat), k ≤ n ∧ k ≤ 10 ∧ ov = .string O ∧ kv = .int .i64 k) (fun _ kv => 10 - (intOf kv).toNat)
        case atStart => exact ⟨0, Nat.zero_le _, Nat.zero_le _, rfl, rfl⟩
        case round =>
          obtain ⟨k, hk, hk10, rfl, rfl⟩ := hrel
          by_cases hlk : k < n ∧ k < 10
          · obtain ⟨hlk1, hlk2⟩ := hlk
            obtain ⟨ad, rfl, hab, hcell⟩ := HC.out (by omega)
            obtain ⟨z, hz⟩ := hcell k hlk1
            have hzr : wr.cell? (ad.add k) = some (.int .i64 z) := (hb.cell (by rw [addr_block]; exact hab)).trans hz
            clear hcell hz
            by_cases hi0 : i = 0
            · have f0 : ¬ (0 : Int) < (i : Int) := by omega
              clear hr0 hEs
              go_wp2_with fail
              go_round
              case rel => exact ⟨k + 1, by omega, by omega, rfl, by go_num⟩
              case measure => simp [intOf]; omega
            · have f0 : (0 : Int) < (i : Int) := by omega
              have hNu := small_u64 N (by omega)
              obtain ⟨q, hq, hqN⟩ := uintMod' z N (by omega) (by omega)
              have gN : ((N : Int) == 0) = false := by simp; omega
              by_cases hqi : q = i
              · have hqe : ((q : Int) == (i : Int)) = true := by simp; omega
                rcases (show (k : Int) % 2 = 0 ∨ (k : Int) % 2 = 1 by omega) with hp | hp
                · have hr1 := HKR.out (.cells #[.string ⟨#[32]⟩, .string ⟨#[9]⟩] 9)
                  go_wp2_with fail
                  go_roundw
                  case rel => exact ⟨i + 1, _, by omega, rfl, by go_num, by rw [ByteArray.size_append, ByteArray.size_append, ByteArray.size_append]; show O.size + 2 + 1 + (Utf8.encode x).size ≤ _; omega, Lib.hid (HK.out _ 32 (.inl rfl) rfl), Lib.hid (hkr.out.alloc _), hb.alloc hb.size _⟩
                  case measure => simp [intOf]; omega
                · have hr1 := HKR.out (.cells #[.string ⟨#[32]⟩, .string ⟨#[9]⟩] 9)
                  go_wp2_with fail
                  go_roundw
                  case rel => exact ⟨i + 1, _, by omega, rfl, by go_num, by rw [ByteArray.size_append, ByteArray.size_append, ByteArray.size_append]; show O.size + 2 + 1 + (Utf8.encode x).size ≤ _; omega, Lib.hid (HK.out _ 9 (.inr rfl) rfl), Lib.hid (hkr.out.alloc _), hb.alloc hb.size _⟩
                  case measure => simp [intOf]; omega
              · have hqe : ((q : Int) == (i : Int)) = false := by simp; omega
                clear hr0
                go_wp2_with fail
                go_round
                case rel => exact ⟨k + 1, by omega, by omega, rfl, by go_num⟩
                case measure => simp [intOf]; omega
          · rcases (show n ≤ k ∨ (k < n ∧ 10 ≤ k) by omega) with hx | ⟨hx, hx2⟩
            all_goals
              go_wp2_with fail
              go_roundw
              case rel => exact ⟨i + 1, _, by omega, rfl, by go_num, by rw [ByteArray.size_append]; omega, HP, hkr, hb⟩
              case measure => simp [intOf]; omega
      · obtain rfl : i = N := by omega
        have hd : Tx.unfold (O ++ ⟨#[13, 10]⟩ : ByteArray).data.toList = some [flat cx] ∧ valid (O ++ ⟨#[13, 10]⟩ : ByteArray).data.toList = true := by
          have h := hinv.out
          rw [← HN.out] at h
          exact h.done
        obtain ⟨F, hF⟩ : ∃ F : ByteArray, O ++ (⟨#[13, 10]⟩ : ByteArray) = F := ⟨_, rfl⟩
        have hFz : F.size ≤ 2200 := by rw [← hF, ByteArray.size_append]; show O.size + 2 ≤ _; omega
        have huf : unfA F.data.toList = ([flat cx], 0) := by
          rw [← hF]
          exact unfA_ok (by rw [← Lib.size_eq, hF]; omega) hd.2 hd.1
        have hst : sts [flat cx] = [S] := by
          rw [← HSL.out]
          rfl
        have HUF := Lib.hid huf
        have HST := Lib.hid hst
        have HUn := Lib.hid (fun (W : World) h1 h2 => unfold_any F W h1 h2 (by omega))
        have HPl := Lib.hid plainT_any
        have HSx := HS.out
        clear hd huf hst hFz
        go_wp2_with fail
        refine (HUn.out wr (HOK.out wr hb).1 (HOK.out wr hb).2).mono ?_
        rintro e w6 ⟨v6, rfl, hv6, b6⟩
        rw [HUF.out, HST.out] at hv6
        rw [HUF.out]
        have HV6 := Lib.hid hv6
        have c6 : Below w.heap.size w w6 := hb.trans (b6.mono hb.size)
        clear hv6 b6
        go_wp2_with fail
        refine (HA.out w6 (HOK.out w6 c6)).mono ?_
        rintro e w7 ⟨rfl, b7⟩
        have c7 : Below w.heap.size w w7 := c6.trans (b7.mono c6.size)
        have HV7 := Lib.hid (HV6.out.below b7)
        have z7 := b7.size
        clear b7
        go_wp2_with fail
        have r1 : ReadT (w7.heap.size + 1) (w7.alloc (.cells #[.string S] 9)) v6 [S] := (HV7.out.below ((Below.refl _ _).alloc z7 _)).more (by omega)
        have r2 : ReadT (w7.heap.size + 1) (w7.alloc (.cells #[.string S] 9)) (.slice (some ⟨w7.heap.size, 0, none⟩) 1 1) [S] := by
          have := ReadT.made (w := w7.alloc (.cells #[.string S] 9)) (g := w7.heap.size) (cap := 1) (n := 1) (o := 0) (x := [S]) rfl (by simp) (fun i b hb => by
            match i, hb with
            | 0, hb =>
              cases hb
              exact cell_of_row _ _ 0 _ 9 (0, 0) (heap_alloc_new w7 _))
          rwa [World.size_alloc] at this
        refine (HPl.out (w7.heap.size + 1) v6 _ [S] [S] _ r1 r2 (by simp) (by simp)).mono ?_
        rintro e w8 ⟨rfl, b8⟩
        have c8 : Below w.heap.size w w8 := (c7.alloc c7.size _).trans (b8.mono (by simp; have := c7.size; omega))
        rw [decide_eq_true (rfl : [S] = [S])]
        clear r1 r2
        go_wp2_with fail
        go_ret
        exact ⟨rfl, c8⟩
end Go.Proofs.YtjdpdkghfbaddaaDoor
