import Derived.Test.YtbgaglcgennhiaaGreatDoorB10
import Derived.Test.YtbgaglcgennhiaaGreatDoorB08
/- what is reached of it -/
namespace Go.Proofs.YtbgaglcgennhiaaGreatDoor
open Go.RowKit Go.Sort Sy
theorem symS_all (lt : ByteArray → ByteArray → Bool) (hW : Weak lt) (cf : ByteArray → ByteArray → Int) (hcf : ∀ x y, lt x y = decide (cf x y < 0)) (g : Nat) (cb : Array Value) (eg : ∀ args w, (callFunc g args).run Tryz.prog w = .ok (.enter g args) w)
    (cap : Nat) (W0 : World) (B : Nat) (hC : CmpS g cb cf W0 B) : ∀ N, SymS lt g cb cap W0 B N
  | 0 => fun _ _ _ _ _ _ _ _ _ h => absurd h (Nat.not_lt_zero _)
  | N + 1 => by
    intro X A C Y a m b len W hN hl hlen ha hm hb hA hC0 hUA hUC hS
    by_cases h1 : A.length = 1
    · obtain ⟨x, rfl⟩ := List.length_eq_one_iff.1 h1
      exact symS_left lt hW cf hcf g cb eg X C Y x a m b len cap W0 W B hC hl hlen ha (by simpa using hm) hb hUC hS
    · by_cases h2 : C.length = 1
      · obtain ⟨x, rfl⟩ := List.length_eq_one_iff.1 h2
        exact symS_right lt hW cf hcf g cb eg X A Y x a m b len cap W0 W B hC hl hlen ha hm (by omega) (by simpa using hb) hUA hS
      · exact symS_gen lt hW cf hcf g cb eg X A C Y a m b len cap N W0 W B hC (symS_all lt hW cf hcf g cb eg cap W0 B hC N) (by omega) hl hlen ha hm hb (by omega) (by omega) hUA hUC hS

set_option maxHeartbeats 16000000 in
set_option maxRecDepth 100000 in
theorem stableS_any (lt : ByteArray → ByteArray → Bool) (hW : Weak lt) (cf : ByteArray → ByteArray → Int) (hcf : ∀ x y, lt x y = decide (cf x y < 0)) (g : Nat) (cb : Array Value) (eg : ∀ args w, (callFunc g args).run Tryz.prog w = .ok (.enter g args) w)
    (L : List ByteArray) (n cap : Nat) (W0 W : World) (B : Nat) (hC : CmpS g cb cf W0 B) (hl : L.length = n) (hn : n ≤ 400000000) (hS : St encS 1 W0 B L.toArray W) :
    Calls Tryz.prog 283 #[.slice (some ⟨B, 0, none⟩) n cap, .int .i64 n, .func (.func g) #[] cb] W fun e w' => e = .returned (.tuple #[]) ∧ St encS 1 W0 B (sortS lt L).toArray w' := by
  have HL := Lib.hid hl
  have HW := Lib.hid hW
  have HINS : Hid (∀ (X S Y : List ByteArray) (a b : Nat) (W : World), (X ++ S ++ Y).length = n → X.length = a → a + S.length = b → St encS 1 W0 B (X ++ S ++ Y).toArray W →
      Calls Tryz.prog 285 #[.slice (some ⟨B, 0, none⟩) n cap, .int .i64 a, .int .i64 b, .func (.func g) #[] cb] W fun e w' => e = .returned (.tuple #[]) ∧ St encS 1 W0 B (X ++ sortS lt S ++ Y).toArray w') :=
    fun X S Y a b W h1 h2 h3 h4 => insertionS_any lt hW cf hcf g cb eg X S Y a b n cap W0 W B hC h1 (by omega) h2 h3 h4
  have HSYM : Hid (∀ (X A C Y : List ByteArray) (a m b : Nat) (W : World), (X ++ A ++ C ++ Y).length = n → X.length = a → a + A.length = m → m + C.length = b → 0 < A.length → 0 < C.length → Up lt A → Up lt C → St encS 1 W0 B (X ++ A ++ C ++ Y).toArray W →
      Calls Tryz.prog 286 #[.slice (some ⟨B, 0, none⟩) n cap, .int .i64 a, .int .i64 m, .int .i64 b, .func (.func g) #[] cb] W fun e w' => e = .returned (.tuple #[]) ∧ St encS 1 W0 B (X ++ mergeS lt A C ++ Y).toArray w') :=
    fun X A C Y a m b W h1 h2 h3 h4 h5 h6 h7 h8 h9 => symS_all lt hW cf hcf g cb eg cap W0 B hC (b - a + 1) X A C Y a m b n W (by omega) h1 (by omega) h2 h3 h4 h5 h6 h7 h8 h9
  have HS := Lib.hid hS
  clear hC hS hl hW hcf
  go_enter Tryz.func283, Tryz.ntmps283
  go_wp2_with fail
  go_loopw [7, 8] (fun av bv wr => ∃ (a b j : Nat) (X R : List ByteArray), av = .int .i64 (a : Nat) ∧ bv = .int .i64 (b : Nat) ∧ b = a + 20 ∧ a ≤ n ∧ Hid (X.length = a) ∧ Hid (Ahead lt 20 L X R j) ∧ Hid (St encS 1 W0 B (X ++ R).toArray wr)) (fun av _ _ => n + 20 - (intOf av).toNat)
  case atStart => exact ⟨0, 20, 0, [], L, rfl, rfl, rfl, Nat.zero_le _, rfl, Ahead.start _ _, HS.out⟩
  case round =>
    clear HS
    obtain ⟨a, b, j, X, R, rfl, rfl, hb, han, HX, HA, SD⟩ := hrel
    have hRl : R.length = n - a := by have := HA.out.sum; have h1 := HL.out; have h2 := HX.out; omega
    have HRL := Lib.hid hRl
    by_cases hbn : b ≤ n
    · have hbz : (b : Int) ≤ (n : Int) := by omega
      obtain ⟨b2, hb2⟩ : ∃ b2, b + 20 = b2 := ⟨_, rfl⟩
      have w1 : IntKind.i64.wrap ((b : Int) + 20) = (b2 : Int) := by rw [IntKind.wrap_i64]; omega
      have HQ := Lib.hid (HINS.out X (R.take 20) (R.drop 20) a b wr (by rw [List.append_assoc, List.take_append_drop, List.length_append, hRl, HX.out]; omega) HX.out (by rw [List.length_take]; omega) (by rw [List.append_assoc, List.take_append_drop]; exact SD.out))
      have HA2 := Lib.hid (HA.out.step (by omega))
      have HX2 : Hid ((X ++ sortS lt (R.take 20)).length = b) := by unfold Hid; rw [List.length_append, sortS_len, List.length_take, HX.out]; omega
      have HB2 : Hid (b2 = b + 20) := hb2.symm
      have HAB : Hid (b = a + 20) := hb
      clear hRl hb hb2
      go_wp2_with fail
      refine HQ.out.mono ?_
      rintro E w' ⟨rfl, S2⟩
      go_wp2_with fail
      go_roundw
      case rel => exact ⟨b, b2, j + 1, _, _, rfl, rfl, HB2.out, hbn, HX2, HA2, S2⟩
      case measure => have := HAB.out; simp [intOf]; omega
    · as_aux_lemma =>
      have hbz : ¬ (b : Int) ≤ (n : Int) := by omega
      have HQ := Lib.hid (HINS.out X R [] a n wr (by rw [List.append_nil, List.length_append, hRl, HX.out]; omega) HX.out (by omega) (by rw [List.append_nil]; exact SD.out))
      have HB0 : Hid (Blk lt 20 L (X ++ sortS lt R ++ [])) := by unfold Hid; rw [List.append_nil]; exact HA.out.blk (by omega)
      clear hRl
      go_wp2_with fail
      refine HQ.out.mono ?_
      rintro E w' ⟨rfl, S2⟩
      have S3 := Lib.hid S2
      obtain ⟨U0, hU0⟩ : ∃ U, X ++ sortS lt R ++ [] = U := ⟨_, rfl⟩
      rw [hU0] at HB0 S3
      clear S2 hU0 HQ HA SD HX HRL hb hbz hbn
      go_wp2_with fail
      go_loopw [6, 7, 8, 9] (fun wv av bv mv wr => ∃ (w : Nat) (u1 u2 u3 : Value) (U : List ByteArray), wv = .int .i64 (w : Nat) ∧ av = u1 ∧ bv = u2 ∧ mv = u3 ∧ 0 < w ∧ w ≤ 800000000 ∧ Hid (Blk lt w L U) ∧ Hid (St encS 1 W0 B U.toArray wr)) (fun wv _ _ _ _ => n - (intOf wv).toNat)
      case atStart => exact ⟨20, _, _, _, U0, rfl, rfl, rfl, rfl, by omega, by omega, HB0, S3⟩
      case round =>
        clear HB0 S3
        obtain ⟨w, u1, u2, u3, U, rfl, rfl, rfl, rfl, hw0, hw9, HB, SU⟩ := hrel
        by_cases hwn : w < n
        · as_aux_lemma =>
          have hwz : (w : Int) < (n : Int) := by omega
          obtain ⟨d, hd⟩ : ∃ d, 2 * w = d := ⟨_, rfl⟩
          have w1 : IntKind.i64.wrap (2 * (w : Int)) = (d : Int) := by rw [IntKind.wrap_i64]; omega
          have w1b : IntKind.i64.wrap ((w : Int) * 2) = (d : Int) := by rw [IntKind.wrap_i64]; omega
          have HT0 := Lib.hid (Twice.start HB.out)
          have HD := Lib.hid hd
          clear hd
          go_wp2_with fail
          go_loopw [7, 8] (fun av bv wr => ∃ (a b j : Nat) (X R U : List ByteArray), av = .int .i64 (a : Nat) ∧ bv = .int .i64 (b : Nat) ∧ b = a + d ∧ a ≤ n ∧ Hid (X.length = a) ∧ Hid (Twice lt w L X R U j) ∧ Hid (St encS 1 W0 B (X ++ U).toArray wr)) (fun av _ _ => n + d - (intOf av).toNat)
          case atStart => exact ⟨0, d, 0, [], L, U, rfl, rfl, by omega, Nat.zero_le _, rfl, HT0, SU⟩
          case round =>
            clear SU HT0
            obtain ⟨a, b, j, X, R, U, rfl, rfl, hb, han, HX, HT, SX⟩ := hrel
            have hRl : R.length = n - a := by have := HT.out.ah.sum; have h1 := HL.out; have h2 := HX.out; omega
            have hUl : U.length = n - a := by have := HT.out.blk.len; omega
            obtain ⟨m, hm⟩ : ∃ m, a + w = m := ⟨_, rfl⟩
            have w2 : IntKind.i64.wrap ((a : Int) + (w : Int)) = (m : Int) := by rw [IntKind.wrap_i64]; omega
            have hdw := HD.out
            by_cases hbn : b ≤ n
            · have hbz : (b : Int) ≤ (n : Int) := by omega
              obtain ⟨b2, hb2⟩ : ∃ b2, b + d = b2 := ⟨_, rfl⟩
              have w3 : IntKind.i64.wrap ((b : Int) + (d : Int)) = (b2 : Int) := by rw [IntKind.wrap_i64]; omega
              obtain ⟨A, C, Z, hU, lA, lC, uA, uC, hT2⟩ := HT.out.step HW.out hw0 (by omega)
              have HT2 := Lib.hid hT2
              have hx := HX.out
              have hsum : A.length + C.length + Z.length = n - a := by rw [← hUl, hU]; simp; omega
              have HQ := Lib.hid (HSYM.out X A C Z a m b wr (by simp; omega) HX.out (by omega) (by omega) (by omega) (by omega) uA uC (by have := SX.out; rw [hU] at this; simpa using this))
              have HX2 : Hid ((X ++ mergeS lt A C).length = b) := by unfold Hid; rw [List.length_append, merge_len]; omega
              have HB2 : Hid (b2 = b + d) := hb2.symm
              have HAB : Hid (b = a + d) := hb
              clear hRl hUl hT2 hU hsum hm hdw hx lA lC hb hb2
              go_wp2_with fail
              refine HQ.out.mono ?_
              rintro E w' ⟨rfl, S2⟩
              go_wp2_with fail
              go_roundw
              case rel => exact ⟨b, b2, j + 1, _, _, _, rfl, rfl, HB2.out, hbn, HX2, HT2, S2⟩
              case measure => have := HD.out; have := HAB.out; simp [intOf]; omega
            · as_aux_lemma =>
              have hbz : ¬ (b : Int) ≤ (n : Int) := by omega
              by_cases hmn : m < n
              · have hmz : (m : Int) < (n : Int) := by omega
                obtain ⟨A, C, hU, lA, lC, uA, uC, hB2⟩ := HT.out.two HW.out (by omega) (by omega)
                rw [HD.out] at hB2
                have HB2 := Lib.hid hB2
                have hx := HX.out
                have hsum : A.length + C.length = n - a := by rw [← hUl, hU]; simp
                have HQ := Lib.hid (HSYM.out X A C [] a m n wr (by simp; omega) HX.out (by omega) (by omega) (by omega) (by omega) uA uC (by have := SX.out; rw [hU] at this; simpa using this))
                clear hRl hUl hB2 hU hsum hm hdw hx lA lC
                go_wp2_with fail
                refine HQ.out.mono ?_
                rintro E w' ⟨rfl, S2⟩
                rw [List.append_nil] at S2
                go_wp2_with fail
                go_roundw
                case rel => exact ⟨d, _, _, _, _, rfl, rfl, rfl, rfl, by have := HD.out; omega, by have := HD.out; omega, HB2, S2⟩
                case measure => have := HD.out; simp [intOf]; omega
              · have hmz : ¬ (m : Int) < (n : Int) := by omega
                have hB2 := HT.out.one hw0 (by omega)
                rw [HD.out] at hB2
                have HB2 := Lib.hid hB2
                clear hRl hUl hB2 hm hdw
                go_wp2_with fail
                go_roundw
                case rel => exact ⟨d, _, _, _, _, rfl, rfl, rfl, rfl, by have := HD.out; omega, by have := HD.out; omega, HB2, SX⟩
                case measure => have := HD.out; simp [intOf]; omega
        · have hwz : ¬ (w : Int) < (n : Int) := by omega
          have hE : Hid (U = sortS lt L) := HB.out.last (by rw [HL.out]; omega)
          go_wp2_with fail
          go_end0
          exact ⟨rfl, by rw [← hE.out]; exact SU.out⟩
set_option maxHeartbeats 4000000 in
theorem sortStableS_any (lt : ByteArray → ByteArray → Bool) (hW : Weak lt) (cf : ByteArray → ByteArray → Int) (hcf : ∀ x y, lt x y = decide (cf x y < 0)) (g : Nat) (cb : Array Value) (eg : ∀ args w, (callFunc g args).run Tryz.prog w = .ok (.enter g args) w)
    (L : List ByteArray) (n cap : Nat) (W0 W : World) (B : Nat) (hC : CmpS g cb cf W0 B) (hl : L.length = n) (hn : n ≤ 400000000) (hS : St encS 1 W0 B L.toArray W) :
    Calls Tryz.prog 274 #[.slice (some ⟨B, 0, none⟩) n cap, .func (.func g) #[] cb] W fun e w' => e = .returned (.tuple #[]) ∧ St encS 1 W0 B (sortS lt L).toArray w' := by
  have HQ := Lib.hid (stableS_any lt hW cf hcf g cb eg L n cap W0 W B hC hl hn hS)
  clear hC hS hW hcf
  go_enter Tryz.func274, Tryz.ntmps274
  go_wp2_with fail
  refine HQ.out.mono ?_
  rintro E w' ⟨rfl, S2⟩
  go_wp2_with fail
  go_end0
  exact ⟨rfl, S2⟩
end Go.Proofs.YtbgaglcgennhiaaGreatDoor
