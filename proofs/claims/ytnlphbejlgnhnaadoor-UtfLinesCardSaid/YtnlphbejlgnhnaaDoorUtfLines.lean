/-
  THE LAW UtfLines: lines built out of characters.
-/
import Derived.Test.YtnlphbejlgnhnaaDoorUtfLaws
import Derived.Test.YtnlphbejlgnhnaaDoorUtfEach
import Derived.Test.YtnlphbejlgnhnaaDoorLines
import Derived.RegionTactic
namespace Go.Proofs.YtnlphbejlgnhnaaDoor
open Go.RowKit Tx

/-- A slice of numbers that came in: it can be read, whatever it holds. -/
def ReadsZ (w : World) (v : Value) (n : Nat) : Prop :=
  ∃ A cap, v = .slice A n cap ∧ (0 < n → ∃ ad : Addr, A = some ad ∧ ad.block < w.heap.size ∧ ∀ i, i < n → ∃ z : Int, w.cell? (ad.add i) = some (.int .i64 z))
theorem addr_block (a : Addr) (i : Nat) : (a.add i).block = a.block := by unfold Addr.add; split <;> rfl

/-- What the loop knows: the characters that the line is of. -/
def Made (k : Nat) (S : ByteArray) (cs : List Nat) : Prop := cs.length = k ∧ S.data.toList = flat cs ∧ Tx.Good cs
theorem Made.start : Made 0 ⟨#[]⟩ [] := ⟨rfl, flat_nil.symm, Tx.Good.nil⟩
theorem Made.step {k : Nat} {S : ByteArray} {cs : List Nat} (h : Made k S cs) (c : Nat) (bs : ByteArray) (he : enc c = bs.data.toList) (h1 : sane c) (h2 : okc c = true) (h3 : 32 ≤ c) : Made (k + 1) (S ++ bs) (cs ++ [c]) :=
  ⟨by rw [List.length_append, h.1]; rfl, by rw [app_list, h.2.1, flat_append, flat_one, he], h.2.2.snoc h1 h2 h3⟩
theorem okc_of {c : Nat} (h : 32 ≤ c ∧ c < 65534 ∨ 65535 < c) : okc c = true := by
  rw [okc_eq]
  simp
  omega
theorem uintMod' (c : Int) (k : Nat) (hk : 0 < k) (hk2 : k < 2000000) : ∃ n : Nat, wrap64 ((IntKind.u64.wrap c).tmod (k : Int)) = (n : Int) ∧ n < k := by
  obtain ⟨n, h1, h2⟩ := uintMod c k (by omega) (by omega)
  exact ⟨n, h1, by omega⟩
theorem small_u64 (k : Nat) (hk : k < 2000000) : IntKind.u64.wrap (k : Int) = k := by
  simp [IntKind.wrap, IntKind.bits, IntKind.signed]
  omega

theorem byteArray_ext {a b : ByteArray} (h : a.data.toList = b.data.toList) : a = b := by
  cases a; cases b
  simp only [ByteArray.mk.injEq]
  exact Array.toList_inj.1 h
theorem flat_le (xs : List Nat) : (flat xs).length ≤ 4 * xs.length := by
  induction xs with
  | nil => rw [flat_nil]; simp
  | cons x xs ih =>
    rw [show x :: xs = [x] ++ xs from rfl, flat_append, flat_one, List.length_append, List.length_append]
    have := (enc_len (n := x)).2
    simp
    omega
theorem runesX_size {X : ByteArray} {xs : List Nat} {n : Nat} (h : X.data.toList = flat xs) (hn : xs.length = n) : X.size ≤ 4 * n := by
  rw [Lib.size_eq, h, ← hn]
  exact flat_le xs
theorem oneByteAt {P : Program} {tb ts te : TypeId} (hb : P.underlying tb = some (.slice te)) (he : P.underlying te = some (.int .u8)) (hs : P.underlying ts = some .string) (x : Int) (W : World) (g : Nat)
    (hc : W.cell? ⟨g, 0, none⟩ = some (.int .u8 x)) : (convert tb ts (.slice (some ⟨g, 0, none⟩) 1 1)).run P W = .ok (.string ⟨#[UInt8.ofNat x.toNat]⟩) W := by
  rw [run_convert_bytes_string _ tb ts te _ _ _ hb he hs]
  have := run_bytesToString (P := P) W ⟨g, 0, none⟩ 1 1 [x] (by
    have h := run_loadCells_list (P := P) (w := W) ⟨g, 0, none⟩ [.int .u8 x] (by
      intro j v hj
      match j, hj with
      | 0, hj => simp at hj; subst hj; simpa [Addr.add] using hc)
    exact h)
  rw [this]
  rfl
theorem foldl_flat (xs : List Nat) : ∀ s : ByteArray, ((xs.map fun c : Nat => (c : Int)).foldl (fun r n => r ++ Utf8.encode n) s).data.toList = s.data.toList ++ flat xs := by
  induction xs with
  | nil => intro s; rw [flat_nil]; simp
  | cons x xs ih =>
    intro s
    rw [List.map_cons, List.foldl_cons, ih, app_list, enc_model, show x :: xs = [x] ++ xs from rfl, flat_append, flat_one, List.append_assoc]
theorem runesBytes_flat (xs : List Nat) : (runesBytes (xs.map fun c : Nat => (c : Int))).data.toList = flat xs := by
  unfold runesBytes
  rw [foldl_flat]
  simp
/-- 'string(b[i:j])' of runes that lie in a block. -/
theorem runesStr {P : Program} {tr ts te : TypeId} (hr : P.underlying tr = some (.slice te)) (he : P.underlying te = some (.int .i32)) (hs : P.underlying ts = some .string) (W : World) (g off n cap : Nat) (xs : List Nat) (hn : xs.length = n)
    (hc : ∀ j, j < n → W.cell? ⟨g, off + j, none⟩ = some (.int .i32 (xs.getD j 0 : Nat))) :
    ∃ X : ByteArray, (convert tr ts (.slice (some ⟨g, off, none⟩) n cap)).run P W = .ok (.string X) W ∧ X.data.toList = flat xs := by
  refine ⟨runesBytes (xs.map fun c : Nat => (c : Int)), ?_, runesBytes_flat xs⟩
  have h := run_convert_runes (P := P) W tr ts te ⟨g, off, none⟩ n cap (xs.map fun c : Nat => (c : Int)) (by rw [List.length_map, hn]; exact Nat.le_refl _) hr he hs (fun j hj => by
    rw [List.length_map, hn] at hj
    have e : (⟨g, off, none⟩ : Addr).add j = ⟨g, off + j, none⟩ := by unfold Addr.add; split <;> simp_all
    rw [e, hc j hj]
    simp [List.getD, List.getElem?_eq_getElem (show j < xs.length by omega)])
  rwa [List.take_of_length_le (by rw [List.length_map, hn]; exact Nat.le_refl _)] at h
set_option maxRecDepth 100000 in
set_option maxHeartbeats 4000000 in
theorem utfLines_any (l : Value) (len : Nat) (most at_ : Int) (c : Int) (w : World) (hT : Tabs w) (hl : ReadsZ w l len) (hlen : len ≤ 9223372036854775807) (hc0 : 0 ≤ c) (hc1 : c < 256) :
    Calls Tryd.prog 6 #[l, .int .i64 most, .int .i64 at_, .int .u8 c] w (Holds w) := by
  obtain ⟨A, cap, rfl, hcells⟩ := hl
  obtain ⟨p, hp, hp2⟩ := uintMod most 60 (by omega) (by omega)
  go_enter Tryd.func6, Tryd.ntmps6
  go_wp2_with fail
  go_loopw [9, 10, 11] (fun s n i wr => ∃ (k : Nat) (S : ByteArray) (cs : List Nat), k ≤ len ∧ k ≤ 50 ∧ i = .int .i64 k ∧ n = .int .i64 k ∧ s = .string S ∧ Hid (Made k S cs) ∧ S.size ≤ 4 * k ∧ Below w.heap.size w wr) (fun _ _ i _ => 50 - (intOf i).toNat)
  case atStart => exact ⟨0, _, [], Nat.zero_le _, Nat.zero_le _, rfl, rfl, rfl, Made.start, Nat.zero_le _, Below.refl _ _⟩
  case round =>
    obtain ⟨k, S, cs, hk, hk50, rfl, rfl, rfl, hcs, hS, hb⟩ := hrel
    by_cases hlt : k < len ∧ k < 50
    · obtain ⟨hlt1, hlt2⟩ := hlt
      obtain ⟨ad, rfl, hab, hcell⟩ := hcells (by omega)
      obtain ⟨z, hz⟩ := hcell k hlt1
      have hzr : wr.cell? (ad.add k) = some (.int .i64 z) := (hb.cell (by rw [addr_block]; exact hab)).trans hz
      have hzn : (wr.alloc (.cells #[.string ⟨#[97]⟩, .string ⟨#[195, 169]⟩, .string ⟨#[226, 130, 172]⟩, .string ⟨#[240, 159, 152, 128]⟩, .string ⟨#[32]⟩] 9)).cell? (ad.add k) = some (.int .i64 z) := by
        rw [World.cell?_alloc_lt _ _ _ (by rw [addr_block]; have := hb.size; omega)]; exact hzr
      obtain ⟨q, hq, hq2⟩ := uintMod z 5 (by omega) (by omega)
      clear hcells hcell hz
      rcases (show q = 0 ∨ q = 1 ∨ q = 2 ∨ q = 3 ∨ q = 4 by omega) with rfl | rfl | rfl | rfl | rfl
      · go_wp2_with fail
        go_roundw
        case rel => exact ⟨k + 1, _, cs ++ [97], by omega, by omega, by go_num, by go_num, rfl, hcs.out.step 97 ⟨#[97]⟩ enc_97 (sane_of (by omega)) (okc_of (by omega)) (by omega), by rw [ByteArray.size_append]; show S.size + 1 ≤ _; omega, hb.alloc hb.size _⟩
        case measure => simp [intOf]; omega
      · go_wp2_with fail
        go_roundw
        case rel => exact ⟨k + 1, _, cs ++ [233], by omega, by omega, by go_num, by go_num, rfl, hcs.out.step 233 ⟨#[195, 169]⟩ enc_233 (sane_of (by omega)) (okc_of (by omega)) (by omega), by rw [ByteArray.size_append]; show S.size + 2 ≤ _; omega, hb.alloc hb.size _⟩
        case measure => simp [intOf]; omega
      · go_wp2_with fail
        go_roundw
        case rel => exact ⟨k + 1, _, cs ++ [8364], by omega, by omega, by go_num, by go_num, rfl, hcs.out.step 8364 ⟨#[226, 130, 172]⟩ enc_8364 (sane_of (by omega)) (okc_of (by omega)) (by omega), by rw [ByteArray.size_append]; show S.size + 3 ≤ _; omega, hb.alloc hb.size _⟩
        case measure => simp [intOf]; omega
      · go_wp2_with fail
        go_roundw
        case rel => exact ⟨k + 1, _, cs ++ [128512], by omega, by omega, by go_num, by go_num, rfl, hcs.out.step 128512 ⟨#[240, 159, 152, 128]⟩ enc_128512 (sane_of (by omega)) (okc_of (by omega)) (by omega), by rw [ByteArray.size_append]; show S.size + 4 ≤ _; omega, hb.alloc hb.size _⟩
        case measure => simp [intOf]; omega
      · go_wp2_with fail
        go_roundw
        case rel => exact ⟨k + 1, _, cs ++ [32], by omega, by omega, by go_num, by go_num, rfl, hcs.out.step 32 ⟨#[32]⟩ enc_32 (sane_of (by omega)) (okc_of (by omega)) (by omega), by rw [ByteArray.size_append]; show S.size + 1 ≤ _; omega, hb.alloc hb.size _⟩
        case measure => simp [intOf]; omega
    · have hmade := hcs.out
      by_cases h0 : k = 0
      · have HA := Lib.hid (fun W h => awake_any W h)
        have LE : Hid (∀ W, Tabs W → Calls Tryd.prog 14 #[.string ⟨#[]⟩, .int .i64 p] W fun e w' => e = .returned (.bool true) ∧ Below W.heap.size W w') := fun W h => by
          have h1 := line_any ⟨#[]⟩ p W h (by decide)
          rw [show (⟨#[]⟩ : ByteArray).data.toList = [] from rfl, line_some ch_nil, low_nil] at h1
          have e : ((0 == 0 : Bool) && decide (((([] : List Nat).length : Nat) : Int) ≤ (p : Int))) = true := by simp
          rwa [e] at h1
        have hT1 := hT.below hb
        have gk : ((k : Int) == 0) = true := by simp; omega
        rcases (show len ≤ k ∨ (k < len ∧ 50 ≤ k) by omega) with hx | ⟨hx, hx2⟩
        · clear hmade hcs hcells h0 hlt
          go_wp2_with fail
          refine (HA.out _ hT1).mono ?_
          rintro e w1 ⟨rfl, b1⟩
          have c1 := hb.trans (b1.mono hb.size)
          have t1 := hT.below c1
          go_wp2_with fail
          refine (LE.out _ t1).mono ?_
          rintro e w2 ⟨rfl, b2⟩
          have c2 := c1.trans (b2.mono c1.size)
          go_wp2_with fail
          go_ret
          exact ⟨rfl, c2⟩
        · exfalso
          omega
      · have hk64 := small_u64 k (by omega)
        obtain ⟨q, hq, hqk⟩ := uintMod' at_ k (by omega) (by omega)
        have g0 : ((k : Int) == 0) = false := by simp; omega
        have hch : ch S.data.toList = some cs := by rw [hmade.2.1]; exact ch_flat hmade.2.2
        have hrf := runes_from S S.size 0 #[] cs (by omega) (by rw [List.drop_zero]; exact hch)
        have hrl : (Conv.runesFrom S S.size 0 #[]).size = k := by rw [hrf]; simp [runeVals, hmade.1]
        have hcv := run_runes_of_string (P := Tryd.prog) wr 9 35 21 S Tryd.underlying9 Tryd.underlying35 Tryd.underlying21 (by rw [hrl]; omega)
        rw [hrl, hrf] at hcv
        have hG0 := grownCap_ge wr k 0 21
        obtain ⟨G, hG⟩ : ∃ G, grownCap wr k 0 21 = G := ⟨_, rfl⟩
        rw [hG] at hcv hG0
        obtain ⟨CS, hCS⟩ : ∃ CS, (#[] ++ (runeVals cs).toArray ++ Array.replicate (G - k) (Value.int .i32 0) : Array Value) = CS := ⟨_, rfl⟩
        rw [hCS] at hcv
        have hcell : ∀ W : World, Bk W wr.heap.size 21 CS → ∀ j, j < k → W.cell? ⟨wr.heap.size, j, none⟩ = some (.int .i32 (cs.getD j 0 : Nat)) := fun W hW j hj => by
          rw [hW.cell j, ← hCS]
          have hl : j < cs.length := by rw [hmade.1]; exact hj
          have e : (#[] ++ (runeVals cs).toArray ++ Array.replicate (G - k) (Value.int .i32 0) : Array Value)[j]? = ((runeVals cs).toArray)[j]? := by
            rw [Array.getElem?_append_left (by simp [runeVals]; exact hl)]
            simp
          rw [e]
          simp [runeVals, List.getD, List.getElem?_eq_getElem hl]
        have hB1 : Bk ((wr.alloc (.cells CS 21)).drew.drew) wr.heap.size 21 CS := (Bk.new wr _ _).drew.drew
        have hB2 : Bk (((wr.alloc (.cells CS 21)).alloc (.cells #[.int .u8 (c % 32)] 5)).drew.drew) wr.heap.size 21 CS := ((Bk.new wr _ _).alloc _).drew.drew
        have hlt1 : (cs.take q).length = q := by rw [List.length_take, hmade.1]; omega
        have hld1 : (cs.drop q).length = k - q := by rw [List.length_drop, hmade.1]
        have ht : ∀ W : World, Bk W wr.heap.size 21 CS → ∀ j, j < q → W.cell? ⟨wr.heap.size, 0 + j, none⟩ = some (.int .i32 ((cs.take q).getD j 0 : Nat)) := fun W hW j hj => by
          rw [Nat.zero_add, hcell W hW j (by omega)]
          simp [List.getD, hj]
        have hd : ∀ W : World, Bk W wr.heap.size 21 CS → ∀ j, j < k - q → W.cell? ⟨wr.heap.size, q + j, none⟩ = some (.int .i32 ((cs.drop q).getD j 0 : Nat)) := fun W hW j hj => by
          rw [hcell W hW (q + j) (by omega)]
          simp [List.getD, List.getElem?_drop]
        obtain ⟨X1, r1, x1⟩ := runesStr (P := Tryd.prog) Tryd.underlying35 Tryd.underlying21 Tryd.underlying9 _ wr.heap.size 0 q G (cs.take q) hlt1 (ht _ hB1)
        obtain ⟨X2, r2, x2⟩ := runesStr (P := Tryd.prog) Tryd.underlying35 Tryd.underlying21 Tryd.underlying9 _ wr.heap.size 0 q G (cs.take q) hlt1 (ht _ hB2)
        obtain ⟨Y1, s1, y1⟩ := runesStr (P := Tryd.prog) Tryd.underlying35 Tryd.underlying21 Tryd.underlying9 _ wr.heap.size q (k - q) (G - q) (cs.drop q) hld1 (hd _ hB1)
        obtain ⟨Y2, s2, y2⟩ := runesStr (P := Tryd.prog) Tryd.underlying35 Tryd.underlying21 Tryd.underlying9 _ wr.heap.size q (k - q) (G - q) (cs.drop q) hld1 (hd _ hB2)
        obtain rfl : X1 = X2 := byteArray_ext (x1.trans x2.symm)
        obtain rfl : Y1 = Y2 := byteArray_ext (y1.trans y2.symm)
        have hc3 := oneByteAt (P := Tryd.prog) Tryd.underlying32 Tryd.underlying5 Tryd.underlying9 (c % 32) (((wr.alloc (.cells CS 21)).alloc (.cells #[.int .u8 (c % 32)] 5)).drew.drew) (wr.heap.size + 1)
          (((Bk.new1 wr _ _ _).drew.drew).cell 0)
        obtain ⟨d, hd0, hd1⟩ : ∃ d : Nat, c % 32 = (d : Int) ∧ d < 32 := ⟨(c % 32).toNat, by omega, by omega⟩
        have hdu : UInt8.ofNat (c % 32).toNat = UInt8.ofNat d := by rw [hd0]; rfl
        rw [hdu] at hc3
        have LT := Lib.hid (low_text hmade.2.2 q d hd1)
        have hX := runesX_size x1 hlt1
        have hY := runesX_size y1 hld1
        have XL := Lib.hid x1
        have YL := Lib.hid y1
        have HD0 := Lib.hid hd0
        have hqG : q ≤ G := by omega
        clear hcell hB1 hB2 hlt1 hld1 ht hd x1 x2 y1 y2 hd0 hdu
        have HCS := Lib.hid hCS
        have HCH := Lib.hid hch
        have HM := Lib.hid hmade
        clear hG hCS hrf hrl hch hmade hcs hcells
        have HA := Lib.hid (fun W h => awake_any W h)
        have LS : Hid (∀ W, Tabs W → Calls Tryd.prog 14 #[.string S, .int .i64 p] W fun e w' => e = .returned (.bool (decide ((k : Int) ≤ p))) ∧ Below W.heap.size W w') := fun W h => by
          have h1 := line_any S p W h (by omega)
          rw [line_some HCH.out, low_good HM.out.2.2, HM.out.1] at h1
          simpa using h1
        have CT : Hid (∀ W, Tabs W → Calls Tryd.prog 13 #[.string S] W fun e w' => e = .returned (.int .i64 k) ∧ Below W.heap.size W w') := fun W h => by
          have h1 := count_any S W h (by omega)
          rwa [runes_some HCH.out, HM.out.1] at h1
        have hlist : Hid ((X1 ++ ⟨#[UInt8.ofNat d]⟩ ++ Y1).data.toList = flat (cs.take q) ++ [UInt8.ofNat d] ++ flat (cs.drop q)) := by
          unfold Hid
          rw [app_list, app_list, XL.out, YL.out]
        have hlsz : Hid ((X1 ++ ⟨#[UInt8.ofNat d]⟩ ++ Y1).size ≤ 1000) := by
          unfold Hid
          rw [ByteArray.size_append, ByteArray.size_append, size_one]
          omega
        have LL : Hid (∀ W, Tabs W → Calls Tryd.prog 14 #[.string (X1 ++ ⟨#[UInt8.ofNat d]⟩ ++ Y1), .int .i64 100] W fun e w' => e = .returned (.bool false) ∧ Below W.heap.size W w') := fun W h => by
          have h1 := line_any (X1 ++ ⟨#[UInt8.ofNat d]⟩ ++ Y1) 100 W h (by have := hlsz.out; omega)
          rwa [hlist.out, LT.out.2] at h1
        have VL0 : Hid (∀ W, Tabs W → Calls Tryd.prog 8 #[.string (X1 ++ ⟨#[UInt8.ofNat d]⟩ ++ Y1)] W fun e w' => e = .returned (.bool (d == 9 || d == 10 || d == 13)) ∧ Below W.heap.size W w') := fun W h => by
          have h1 := valid_any (X1 ++ ⟨#[UInt8.ofNat d]⟩ ++ Y1) W h (by have := hlsz.out; omega)
          rwa [hlist.out, LT.out.1] at h1
        have c3 : Below w.heap.size w ((wr.alloc (.cells CS 21)).alloc (.cells #[.int .u8 (c % 32)] 5)).drew.drew := (((hb.alloc hb.size _).alloc (by have := hb.size; simp; omega) _).drew).drew
        have t3 := hT.below c3
        clear LT XL YL hlist hlsz HCH HM HCS
        rcases (show c % 32 = 9 ∨ c % 32 = 10 ∨ c % 32 = 13 ∨ (¬ c % 32 = 9 ∧ ¬ c % 32 = 10 ∧ ¬ c % 32 = 13) by omega) with hv | hv | hv | ⟨hv1, hv2, hv3⟩
        · have hdv : (d == 9 || d == 10 || d == 13) = true := by
            have := HD0.out
            simp; omega
          rw [hdv] at VL0
          have VL := VL0
          have g9 : (c % 32 == 9) = true := by simpa using hv
          clear hdv VL0 hv
          rcases (show len ≤ k ∨ (k < len ∧ 50 ≤ k) by omega) with hx | ⟨hx, hx2⟩
          all_goals
            go_wp2_with fail
            go_region
            go_wp2_with fail
            refine (HA.out _ t3).mono ?_
            rintro e w4 ⟨rfl, b4⟩
            have c4 := c3.trans (b4.mono c3.size)
            have t4 := hT.below c4
            go_wp2_with fail
            refine (LS.out _ t4).mono ?_
            rintro e w5 ⟨rfl, b5⟩
            have c5 := c4.trans (b5.mono c4.size)
            have t5 := hT.below c5
            go_wp2_with fail
            refine (CT.out _ t5).mono ?_
            rintro e w6 ⟨rfl, b6⟩
            have c6 := c5.trans (b6.mono c5.size)
            have t6 := hT.below c6
            go_wp2_with fail
            refine (LL.out _ t6).mono ?_
            rintro e w7 ⟨rfl, b7⟩
            have c7 := c6.trans (b7.mono c6.size)
            have t7 := hT.below c7
            go_wp2_with fail
            refine (VL.out _ t7).mono ?_
            rintro e w8 ⟨rfl, b8⟩
            have c8 := c7.trans (b8.mono c7.size)
            go_wp2_with fail
            go_ret
            exact ⟨ret_bool (by simp), c8⟩
        · have hdv : (d == 9 || d == 10 || d == 13) = true := by
            have := HD0.out
            simp; omega
          rw [hdv] at VL0
          have VL := VL0
          have g9 : (c % 32 == 9) = false := by simp; omega
          have g10 : (c % 32 == 10) = true := by simpa using hv
          clear hdv VL0 hv
          rcases (show len ≤ k ∨ (k < len ∧ 50 ≤ k) by omega) with hx | ⟨hx, hx2⟩
          all_goals
            go_wp2_with fail
            go_region
            go_wp2_with fail
            refine (HA.out _ t3).mono ?_
            rintro e w4 ⟨rfl, b4⟩
            have c4 := c3.trans (b4.mono c3.size)
            have t4 := hT.below c4
            go_wp2_with fail
            refine (LS.out _ t4).mono ?_
            rintro e w5 ⟨rfl, b5⟩
            have c5 := c4.trans (b5.mono c4.size)
            have t5 := hT.below c5
            go_wp2_with fail
            refine (CT.out _ t5).mono ?_
            rintro e w6 ⟨rfl, b6⟩
            have c6 := c5.trans (b6.mono c5.size)
            have t6 := hT.below c6
            go_wp2_with fail
            refine (LL.out _ t6).mono ?_
            rintro e w7 ⟨rfl, b7⟩
            have c7 := c6.trans (b7.mono c6.size)
            have t7 := hT.below c7
            go_wp2_with fail
            refine (VL.out _ t7).mono ?_
            rintro e w8 ⟨rfl, b8⟩
            have c8 := c7.trans (b8.mono c7.size)
            go_wp2_with fail
            go_ret
            exact ⟨ret_bool (by simp), c8⟩
        · have hdv : (d == 9 || d == 10 || d == 13) = true := by
            have := HD0.out
            simp; omega
          rw [hdv] at VL0
          have VL := VL0
          have g9 : (c % 32 == 9) = false := by simp; omega
          have g10 : (c % 32 == 10) = false := by simp; omega
          have g13 : (c % 32 == 13) = true := by simpa using hv
          clear hdv VL0 hv
          rcases (show len ≤ k ∨ (k < len ∧ 50 ≤ k) by omega) with hx | ⟨hx, hx2⟩
          all_goals
            go_wp2_with fail
            go_region
            go_wp2_with fail
            refine (HA.out _ t3).mono ?_
            rintro e w4 ⟨rfl, b4⟩
            have c4 := c3.trans (b4.mono c3.size)
            have t4 := hT.below c4
            go_wp2_with fail
            refine (LS.out _ t4).mono ?_
            rintro e w5 ⟨rfl, b5⟩
            have c5 := c4.trans (b5.mono c4.size)
            have t5 := hT.below c5
            go_wp2_with fail
            refine (CT.out _ t5).mono ?_
            rintro e w6 ⟨rfl, b6⟩
            have c6 := c5.trans (b6.mono c5.size)
            have t6 := hT.below c6
            go_wp2_with fail
            refine (LL.out _ t6).mono ?_
            rintro e w7 ⟨rfl, b7⟩
            have c7 := c6.trans (b7.mono c6.size)
            have t7 := hT.below c7
            go_wp2_with fail
            refine (VL.out _ t7).mono ?_
            rintro e w8 ⟨rfl, b8⟩
            have c8 := c7.trans (b8.mono c7.size)
            go_wp2_with fail
            go_ret
            exact ⟨ret_bool (by simp), c8⟩
        · have hdv : (d == 9 || d == 10 || d == 13) = false := by
            have := HD0.out
            simp; omega
          rw [hdv] at VL0
          have VL := VL0
          have g9 : (c % 32 == 9) = false := by simpa using hv1
          have g10 : (c % 32 == 10) = false := by simpa using hv2
          have g13 : (c % 32 == 13) = false := by simpa using hv3
          clear hdv VL0 hv1 hv2 hv3
          rcases (show len ≤ k ∨ (k < len ∧ 50 ≤ k) by omega) with hx | ⟨hx, hx2⟩
          all_goals
            go_wp2_with fail
            go_region
            go_wp2_with fail
            refine (HA.out _ t3).mono ?_
            rintro e w4 ⟨rfl, b4⟩
            have c4 := c3.trans (b4.mono c3.size)
            have t4 := hT.below c4
            go_wp2_with fail
            refine (LS.out _ t4).mono ?_
            rintro e w5 ⟨rfl, b5⟩
            have c5 := c4.trans (b5.mono c4.size)
            have t5 := hT.below c5
            go_wp2_with fail
            refine (CT.out _ t5).mono ?_
            rintro e w6 ⟨rfl, b6⟩
            have c6 := c5.trans (b6.mono c5.size)
            have t6 := hT.below c6
            go_wp2_with fail
            refine (LL.out _ t6).mono ?_
            rintro e w7 ⟨rfl, b7⟩
            have c7 := c6.trans (b7.mono c6.size)
            have t7 := hT.below c7
            go_wp2_with fail
            refine (VL.out _ t7).mono ?_
            rintro e w8 ⟨rfl, b8⟩
            have c8 := c7.trans (b8.mono c7.size)
            go_wp2_with fail
            go_ret
            exact ⟨ret_bool (by simp), c8⟩
end Go.Proofs.YtnlphbejlgnhnaaDoor
