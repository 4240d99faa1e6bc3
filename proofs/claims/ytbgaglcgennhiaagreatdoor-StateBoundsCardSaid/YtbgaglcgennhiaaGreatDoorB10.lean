import Derived.Test.YtbgaglcgennhiaaGreatDoorB09
import Derived.Deep.DeepCutAuto
/- what is reached of it -/
namespace Go.Proofs.YtbgaglcgennhiaaGreatDoor
open Go.RowKit Go.Sort Sy
theorem symS_rest (lt : ByteArray → ByteArray → Bool) (hW : Weak lt) (g : Nat) (cb : Array Value)
    (X A C Y : List ByteArray) (a m b len cap N : Nat) (W0 : World) (B : Nat) (D T : Array ByteArray) (d n : Nat) (hD : (X ++ A ++ C ++ Y).toArray = D) (hT : (X ++ mergeS lt A C ++ Y).toArray = T) (IH : SymS lt g cb cap W0 B N) (hN : b - a ≤ N) (hl : (X ++ A ++ C ++ Y).length = len) (hlen : len ≤ 1000000000) (ha : X.length = a) (hm : a + A.length = m) (hb : m + C.length = b)
    (hA2 : 1 < A.length) (hC2 : 1 < C.length) (hUA : Up lt A) (hUC : Up lt C) (hd : (a + b) / 2 = d) (hn : d + m = n) :
    ∀ s e, s + e = n → a ≤ s → s ≤ m → m ≤ e → e ≤ b → (s = a ∨ e = b ∨ lt D[e]! D[s - 1]! = false) → (s = m ∨ e = m ∨ lt D[e - 1]! D[s]! = true) →
      ∃ D2 D3, (∀ w', St encS 1 W0 B D w' → s < m → m < e → Calls Tryz.prog 287 #[.slice (some ⟨B, 0, none⟩) len cap, .int .i64 s, .int .i64 m, .int .i64 e, .func (.func g) #[] cb] w' fun E w2 => E = .returned (.tuple #[]) ∧ St encS 1 W0 B D2 w2) ∧
        (¬ (s < m ∧ m < e) → D2 = D) ∧
        (∀ w', St encS 1 W0 B D2 w' → a < s → s < d → Calls Tryz.prog 286 #[.slice (some ⟨B, 0, none⟩) len cap, .int .i64 a, .int .i64 s, .int .i64 d, .func (.func g) #[] cb] w' fun E w2 => E = .returned (.tuple #[]) ∧ St encS 1 W0 B D3 w2) ∧
        (¬ (a < s ∧ s < d) → D3 = D2) ∧
        (∀ w', St encS 1 W0 B D3 w' → d < e → e < b → Calls Tryz.prog 286 #[.slice (some ⟨B, 0, none⟩) len cap, .int .i64 d, .int .i64 e, .int .i64 b, .func (.func g) #[] cb] w' fun E w2 => E = .returned (.tuple #[]) ∧ St encS 1 W0 B T w2) ∧
        (¬ (d < e ∧ e < b) → T = D3) := by
  have had : a < d := by omega
  have hdb : d < b := by omega
  intro s e hse has hsm hme heb h1 h2
  have key := sym_cut hW X A C Y D a m b s e hD ha hm hb hUA hUC has hsm hme heb h1 h2
  have eA : A = A.take (s - a) ++ A.drop (s - a) := (List.take_append_drop _ _).symm
  have eC : C = C.take (e - m) ++ C.drop (e - m) := (List.take_append_drop _ _).symm
  have lA1 : (A.take (s - a)).length = s - a := by rw [List.length_take]; omega
  have lA2 : (A.drop (s - a)).length = m - s := by rw [List.length_drop]; omega
  have lC1 : (C.take (e - m)).length = e - m := by rw [List.length_take]; omega
  have lC2 : (C.drop (e - m)).length = b - e := by rw [List.length_drop]; omega
  generalize A.take (s - a) = A1 at *
  generalize A.drop (s - a) = A2 at *
  generalize C.take (e - m) = C1 at *
  generalize C.drop (e - m) = C2 at *
  subst eA
  subst eC
  have uA1 : Up lt A1 := (List.pairwise_append.1 hUA).1
  have uA2 : Up lt A2 := (List.pairwise_append.1 hUA).2.1
  have uC1 : Up lt C1 := (List.pairwise_append.1 hUC).1
  have uC2 : Up lt C2 := (List.pairwise_append.1 hUC).2.1
  have lAll : X.length + A1.length + A2.length + C1.length + C2.length + Y.length = len := by rw [← hl]; simp; omega
  refine ⟨(X ++ A1 ++ C1 ++ A2 ++ C2 ++ Y).toArray, (X ++ mergeS lt A1 C1 ++ A2 ++ C2 ++ Y).toArray, ?_, ?_, ?_, ?_, ?_, ?_⟩
  · intro w' S' q1 q2
    have := rotateS_any (X ++ A1) A2 C1 (C2 ++ Y) s m e len cap (.func (.func g) #[] cb) W0 w' B (by simp; omega) hlen (by simp; omega) (by omega) (by omega) (by omega) (by omega) (by rw [← hD] at S'; simpa using S')
    simpa using this
  · intro q
    rw [← hD]
    by_cases c1 : s < m
    · have : C1 = [] := List.length_eq_zero_iff.1 (by omega)
      subst this; simp
    · have : A2 = [] := List.length_eq_zero_iff.1 (by omega)
      subst this; simp
  · intro w' S' q1 q2
    have := IH X A1 C1 (A2 ++ C2 ++ Y) a s d len w' (by omega) (by simp; omega) hlen ha (by omega) (by omega) (by omega) (by omega) uA1 uC1 (by simpa using S')
    simpa using this
  · intro q
    by_cases c1 : a < s
    · have : C1 = [] := List.length_eq_zero_iff.1 (by omega)
      subst this; rw [merge_nil]; simp
    · have : A1 = [] := List.length_eq_zero_iff.1 (by omega)
      subst this; rw [nil_merge]; simp
  · intro w' S' q1 q2
    have := IH (X ++ mergeS lt A1 C1) A2 C2 Y d e b len w' (by omega) (by simp [merge_len]; omega) hlen (by simp [merge_len]; omega) (by omega) (by omega) (by omega) (by omega) uA2 uC2 (by simpa using S')
    rw [← hT, key]
    simpa using this
  · intro q
    rw [← hT, key]
    by_cases c1 : d < e
    · have : C2 = [] := List.length_eq_zero_iff.1 (by omega)
      subst this; rw [merge_nil]; simp
    · have : A2 = [] := List.length_eq_zero_iff.1 (by omega)
      subst this; rw [nil_merge]; simp
set_option maxHeartbeats 16000000 in
set_option maxRecDepth 100000 in
theorem symS_gen (lt : ByteArray → ByteArray → Bool) (hW : Weak lt) (cf : ByteArray → ByteArray → Int) (hcf : ∀ x y, lt x y = decide (cf x y < 0)) (g : Nat) (cb : Array Value) (eg : ∀ args w, (callFunc g args).run Tryz.prog w = .ok (.enter g args) w)
    (X A C Y : List ByteArray) (a m b len cap N : Nat) (W0 W : World) (B : Nat) (hC : CmpS g cb cf W0 B) (IH : SymS lt g cb cap W0 B N) (hN : b - a ≤ N) (hl : (X ++ A ++ C ++ Y).length = len) (hlen : len ≤ 1000000000) (ha : X.length = a) (hm : a + A.length = m) (hb : m + C.length = b)
    (hA2 : 1 < A.length) (hC2 : 1 < C.length) (hUA : Up lt A) (hUC : Up lt C) (hS : St encS 1 W0 B (X ++ A ++ C ++ Y).toArray W) :
    Calls Tryz.prog 286 #[.slice (some ⟨B, 0, none⟩) len cap, .int .i64 a, .int .i64 m, .int .i64 b, .func (.func g) #[] cb] W fun e w' => e = .returned (.tuple #[]) ∧ St encS 1 W0 B (X ++ mergeS lt A C ++ Y).toArray w' := by
  obtain ⟨D, hD⟩ : ∃ D, (X ++ A ++ C ++ Y).toArray = D := ⟨_, rfl⟩
  have hDl : D.size = len := by rw [← hD, ← hl]; simp
  have hbl : b ≤ len := by rw [← hl]; simp; omega
  rw [hD] at hS
  obtain ⟨T, hT⟩ : ∃ T, (X ++ mergeS lt A C ++ Y).toArray = T := ⟨_, rfl⟩
  rw [hT]
  obtain ⟨d, hd⟩ : ∃ d, (a + b) / 2 = d := ⟨_, rfl⟩
  obtain ⟨n, hn⟩ : ∃ n, d + m = n := ⟨_, rfl⟩
  obtain ⟨z, hz⟩ : ∃ z, n - 1 = z := ⟨_, rfl⟩
  have had : a < d := by omega
  have hdb : d < b := by omega
  have ham : a + 1 < m := by omega
  have hmb : m + 1 < b := by omega
  have REST := Lib.hid (symS_rest lt hW g cb X A C Y a m b len cap N W0 B D T d n hD hT IH hN hl hlen ha hm hb hA2 hC2 hUA hUC hd hn)
  have HS := Lib.hid hS
  have HC := Lib.hid hC
  have HCF := Lib.hid hcf
  obtain ⟨p, hp⟩ : ∃ p, m - a = p := ⟨_, rfl⟩
  obtain ⟨q, hq⟩ : ∃ q, b - m = q := ⟨_, rfl⟩
  have w1 : IntKind.i64.wrap ((m : Int) - (a : Int)) = (p : Int) := by rw [IntKind.wrap_i64]; omega
  have w2 : IntKind.i64.wrap ((b : Int) - (m : Int)) = (q : Int) := by rw [IntKind.wrap_i64]; omega
  have hp1 : ((p : Int) == 1) = false := by simp; omega
  have hq1 : ((q : Int) == 1) = false := by simp; omega
  have v1 : IntKind.i64.wrap ((a : Int) + (b : Int)) = (a : Int) + (b : Int) := by rw [IntKind.wrap_i64]; omega
  have v2 : IntKind.u64.wrap ((a : Int) + (b : Int)) = (a : Int) + (b : Int) := by rw [IntKind.wrap_u64]; omega
  have v3 : ((a : Int) + (b : Int)) / 2 = (d : Int) := by omega
  have v4 : IntKind.i64.wrap (d : Int) = (d : Int) := by rw [IntKind.wrap_i64]; omega
  have v4u : IntKind.u64.wrap (d : Int) = (d : Int) := by rw [IntKind.wrap_u64]; omega
  have v5 : IntKind.i64.wrap ((d : Int) + (m : Int)) = (n : Int) := by rw [IntKind.wrap_i64]; omega
  have v6 : IntKind.i64.wrap ((n : Int) - 1) = (z : Int) := by rw [IntKind.wrap_i64]; omega
  obtain ⟨y, hy⟩ : ∃ y, n - b = y := ⟨_, rfl⟩
  have hbn : d < m → b ≤ n := by omega
  clear hC hS hl hp hq hW hcf hUA hUC hD hT IH hN hm hb ha hA2 hC2 hd
  go_enter Tryz.func286, Tryz.ntmps286
  go_upto_if 140 with fail
  go_cut [20, 21] (fun sv rv wx => ∃ s0 r0 : Nat, sv = .int .i64 (s0 : Nat) ∧ rv = .int .i64 (r0 : Nat) ∧ Hid ((s0 = a ∧ r0 = m ∧ m ≤ d) ∨ (s0 = y ∧ r0 = d ∧ d < m)) ∧ wx = W)
  case first =>
    by_cases hmd : d < m
    · have hmz : (d : Int) < (m : Int) := by omega
      have hbn2 := hbn hmd
      have v7 : IntKind.i64.wrap ((n : Int) - (b : Int)) = (y : Int) := by rw [IntKind.wrap_i64]; omega
      go_wp2_with fail
      go_meet
      exact ⟨y, d, rfl, rfl, .inr ⟨rfl, rfl, hmd⟩, rfl⟩
    · have hmz : ¬ (d : Int) < (m : Int) := by omega
      go_wp2_with fail
      go_meet
      exact ⟨a, m, rfl, rfl, .inl ⟨rfl, rfl, by omega⟩, rfl⟩
  case rest =>
  obtain ⟨s0, r0, rfl, rfl, HQ, rfl⟩ := hcut
  have hq0 : a ≤ s0 ∧ s0 ≤ r0 ∧ r0 ≤ m := by have := HQ.out; omega
  have hnr : m ≤ n - r0 ∧ n - s0 ≤ b ∧ r0 ≤ n := by have := HQ.out; omega
  obtain ⟨hs0, hsr0, hr0⟩ := hq0
  obtain ⟨hnr1, hnr2, hnr3⟩ := hnr
  go_wp2_with fail
  go_loopw [20, 21, 23] (fun sv rv cv wr => ∃ (s r : Nat) (u : Value), sv = .int .i64 (s : Nat) ∧ rv = .int .i64 (r : Nat) ∧ cv = u ∧ s0 ≤ s ∧ s ≤ r ∧ r ≤ r0 ∧ Hid (s = s0 ∨ lt D[n - s]! D[s - 1]! = false) ∧ Hid (r = r0 ∨ lt D[n - 1 - r]! D[r]! = true) ∧ Hid (St encS 1 W0 B D wr)) (fun sv rv _ _ => (intOf rv).toNat - (intOf sv).toNat)
  case atStart => exact ⟨s0, r0, _, rfl, rfl, rfl, Nat.le_refl _, hsr0, Nat.le_refl _, .inl rfl, .inl rfl, HS.out⟩
  case round =>
    clear HS
    obtain ⟨s, r, u, rfl, rfl, rfl, h0s, hsr, hrr, H1, H2, SD⟩ := hrel
    by_cases hlt : s < r
    · as_aux_lemma =>
      have hltz : (s : Int) < (r : Int) := by omega
      obtain ⟨c, hc⟩ : ∃ c, (s + r) / 2 = c := ⟨_, rfl⟩
      have x1 : IntKind.i64.wrap ((s : Int) + (r : Int)) = (s : Int) + (r : Int) := by rw [IntKind.wrap_i64]; omega
      have x2 : IntKind.u64.wrap ((s : Int) + (r : Int)) = (s : Int) + (r : Int) := by rw [IntKind.wrap_u64]; omega
      have x3 : ((s : Int) + (r : Int)) / 2 = (c : Int) := by omega
      have x4 : IntKind.i64.wrap (c : Int) = (c : Int) := by rw [IntKind.wrap_i64]; omega
      have x4u : IntKind.u64.wrap (c : Int) = (c : Int) := by rw [IntKind.wrap_u64]; omega
      obtain ⟨k, hk⟩ : ∃ k, z - c = k := ⟨_, rfl⟩
      have x5 : IntKind.i64.wrap ((z : Int) - (c : Int)) = (k : Int) := by rw [IntKind.wrap_i64]; omega
      have hsc : s ≤ c := by omega
      have hcr : c < r := by omega
      have hcl : c < len := by omega
      have hkl : k < len := by omega
      have ch : ∀ v : Bel wr, v.v.cell? ⟨B, k, none⟩ = some (.string D[k]!) := fun v => ((SD.out.bel v).cell k (by rw [hDl]; exact hkl)).1
      have ca : ∀ v : Bel wr, v.v.cell? ⟨B, c, none⟩ = some (.string D[c]!) := fun v => ((SD.out.bel v).cell c (by rw [hDl]; exact hcl)).1
      have hcm : ∀ v : Bel wr, Calls Tryz.prog g (#[.string D[k]!, .string D[c]!] ++ cb) v.v fun e w' => e = .returned (.int .i64 (cf D[k]! D[c]!)) ∧ Below v.v.heap.size v.v w' := fun v => HC.out D v.v (SD.out.bel v) _ _
      have hlq := HCF.out D[k]! D[c]!
      have hUQ : Hid (lt D[k]! D[c]! = false → (c + 1 = s0 ∨ lt D[n - (c + 1)]! D[c + 1 - 1]! = false)) := fun h => .inr (by rw [show n - (c + 1) = k by omega, Nat.add_sub_cancel]; exact h)
      have hDQ : Hid (lt D[k]! D[c]! = true → (c = r0 ∨ lt D[n - 1 - c]! D[c]! = true)) := fun h => .inr (by rw [show n - 1 - c = k by omega]; exact h)
      obtain ⟨sv, hs⟩ : ∃ s, D[k]! = s := ⟨_, rfl⟩
      obtain ⟨tv, ht⟩ : ∃ s, D[c]! = s := ⟨_, rfl⟩
      have hUQ2 : Hid (lt sv tv = false → (c + 1 = s0 ∨ lt D[n - (c + 1)]! D[c + 1 - 1]! = false)) := by rw [← hs, ← ht]; exact hUQ
      have hDQ2 : Hid (lt sv tv = true → (c = r0 ∨ lt D[n - 1 - c]! D[c]! = true)) := by rw [← hs, ← ht]; exact hDQ
      rw [hs, ht] at hcm hlq
      rw [ht] at ca
      rw [hs] at ch
      clear hs ht hk hc hUQ hDQ
      by_cases hcc : cf sv tv < 0
      · have hcd : decide (cf sv tv < 0) = true := decide_eq_true hcc
        have hcn : (!decide (cf sv tv < 0)) = false := by rw [hcd]; rfl
        have hR := Lib.hid (hDQ2.out (hlq.trans hcd))
        clear hlq hUQ2 hDQ2
        go_wp2_with fail
        refine wp_region_quiet_bel (by kernel_rfl) (by kernel_rfl) ?_
        repeat (quiet_step (first | (go_at_fn g; exact Calls.bel_of (hcm _))))
        refine wpQuiet_nil ?_
        intro w2 hw'
        have hb2 : Below wr.heap.size wr w2 := by obtain ⟨v, rfl⟩ := hw'; exact v.h
        clear hw'
        have S3 := Lib.hid (SD.out.below hb2)
        clear ch ca hcm
        go_wp2_with fail
        go_roundw
        case rel => exact ⟨s, c, _, rfl, rfl, rfl, h0s, hsc, by omega, H1, hR, S3⟩
        case measure => simp [intOf]; omega
      · have hcd : decide (cf sv tv < 0) = false := decide_eq_false hcc
        have hcn : (!decide (cf sv tv < 0)) = true := by rw [hcd]; rfl
        have hR := Lib.hid (hUQ2.out (hlq.trans hcd))
        have x6 : IntKind.i64.wrap ((c : Int) + 1) = (c : Int) + 1 := by rw [IntKind.wrap_i64]; omega
        clear hlq hUQ2 hDQ2
        go_wp2_with fail
        refine wp_region_quiet_bel (by kernel_rfl) (by kernel_rfl) ?_
        repeat (quiet_step (first | (go_at_fn g; exact Calls.bel_of (hcm _))))
        refine wpQuiet_nil ?_
        intro w2 hw'
        have hb2 : Below wr.heap.size wr w2 := by obtain ⟨v, rfl⟩ := hw'; exact v.h
        clear hw'
        have S3 := Lib.hid (SD.out.below hb2)
        clear ch ca hcm
        go_wp2_with fail
        go_roundw
        case rel => exact ⟨c + 1, r, _, by go_num, rfl, rfl, by omega, by omega, hrr, hR, H2, S3⟩
        case measure => simp [intOf]; omega
    · as_aux_lemma =>
      have hltz : ¬ (s : Int) < (r : Int) := by omega
      obtain rfl : s = r := by omega
      obtain ⟨e, he⟩ : ∃ e, n - s = e := ⟨_, rfl⟩
      have y1 : IntKind.i64.wrap ((n : Int) - (s : Int)) = (e : Int) := by rw [IntKind.wrap_i64]; omega
      have hE := REST.out s e (by omega) (by omega) (by omega) (by omega) (by omega)
        (by
          rcases H1.out with h | h
          · rcases HQ.out with ⟨g1, _, _⟩ | ⟨g1, _, _⟩
            · exact .inl (by omega)
            · exact .inr (.inl (by omega))
          · exact .inr (.inr (by rw [← he]; exact h)))
        (by
          rcases H2.out with h | h
          · rcases HQ.out with ⟨_, g1, _⟩ | ⟨_, g1, _⟩
            · exact .inl (by omega)
            · exact .inr (.inl (by omega))
          · exact .inr (.inr (by rw [← he, show n - s - 1 = n - 1 - s by omega]; exact h)))
      obtain ⟨D2, D3, g1, g2, g3, g4, g5, g6⟩ := hE
      have G1 := Lib.hid g1
      have G2 := Lib.hid g2
      have G3 := Lib.hid g3
      have G4 := Lib.hid g4
      have G5 := Lib.hid g5
      have G6 := Lib.hid g6
      have hme : m ≤ e := by omega
      have hsm : s ≤ m := by omega
      have hasx : a ≤ s := by omega
      have hebx : e ≤ b := by omega
      clear g1 g2 g3 g4 g5 g6 H1 H2 HQ REST he hnr1 hnr2 hnr3 hs0 hsr0 hr0 h0s hrr hltz hlt
      clear v1 v2 v3 v4 v4u v5 v6 w1 w2 hp1 hq1
      go_upto_region 39 with fail
      go_cut [185] (fun bv wx => bv = .bool (decide (s < m ∧ m < e)) ∧ wx = wr)
      case first =>
        by_cases k1 : s < m
        · have k1z : (s : Int) < (m : Int) := by omega
          have k1d : decide ((s : Int) < (m : Int)) = true := decide_eq_true k1z
          by_cases k2 : m < e
          · have k2z : (m : Int) < (e : Int) := by omega
            have k2d : decide ((m : Int) < (e : Int)) = true := decide_eq_true k2z
            go_wp2_with fail
            go_meet
            exact ⟨by rw [decide_eq_true (And.intro k1 k2)], rfl⟩
          · have k2z : ¬ (m : Int) < (e : Int) := by omega
            have k2d : decide ((m : Int) < (e : Int)) = false := decide_eq_false k2z
            go_wp2_with fail
            go_meet
            exact ⟨by rw [decide_eq_false (fun h : s < m ∧ m < e => k2 h.2)], rfl⟩
        · have k1z : ¬ (s : Int) < (m : Int) := by omega
          have k1d : decide ((s : Int) < (m : Int)) = false := decide_eq_false k1z
          go_wp2_with fail
          go_meet
          exact ⟨by rw [decide_eq_false (fun h : s < m ∧ m < e => k1 h.1)], rfl⟩
      case rest =>
      obtain ⟨rfl, rfl⟩ := hcut
      have HDC : Hid ((decide (s < m ∧ m < e)) = decide (s < m ∧ m < e)) := rfl
      obtain ⟨bb, hbb⟩ : ∃ bb, decide (s < m ∧ m < e) = bb := ⟨_, rfl⟩
      have HBB := Lib.hid hbb
      rw [hbb]
      clear hbb HDC
      go_upto_if 185 with fail
      go_cut [24] (fun kv wx => kv = .int .i64 (e : Nat) ∧ Hid (St encS 1 W0 B D2 wx))
      case first =>
        cases bb with
        | true =>
          have kk := of_decide_eq_true HBB.out
          have HQA := Lib.hid (G1.out _ SD.out kk.1 kk.2)
          go_wp2_with fail
          refine HQA.out.mono ?_
          rintro E w' ⟨rfl, S2⟩
          go_wp2_with fail
          go_meet
          exact ⟨rfl, S2⟩
        | false =>
          have kk : D2 = D := G2.out (of_decide_eq_false HBB.out)
          go_wp2_with fail
          go_meet
          exact ⟨rfl, by rw [kk]; exact SD⟩
      case rest =>
      as_aux_lemma =>
      obtain ⟨rfl, SA⟩ := hcut
      go_upto_region 41 with fail
      go_cut [199] (fun bv wx => bv = .bool (decide (a < s ∧ s < d)) ∧ wx = wc)
      case first =>
        by_cases k1 : a < s
        · have k1z : (a : Int) < (s : Int) := by omega
          have k1d : decide ((a : Int) < (s : Int)) = true := decide_eq_true k1z
          by_cases k2 : s < d
          · have k2z : (s : Int) < (d : Int) := by omega
            have k2d : decide ((s : Int) < (d : Int)) = true := decide_eq_true k2z
            go_wp2_with fail
            go_meet
            exact ⟨by rw [decide_eq_true (And.intro k1 k2)], rfl⟩
          · have k2z : ¬ (s : Int) < (d : Int) := by omega
            have k2d : decide ((s : Int) < (d : Int)) = false := decide_eq_false k2z
            go_wp2_with fail
            go_meet
            exact ⟨by rw [decide_eq_false (fun h : a < s ∧ s < d => k2 h.2)], rfl⟩
        · have k1z : ¬ (a : Int) < (s : Int) := by omega
          have k1d : decide ((a : Int) < (s : Int)) = false := decide_eq_false k1z
          go_wp2_with fail
          go_meet
          exact ⟨by rw [decide_eq_false (fun h : a < s ∧ s < d => k1 h.1)], rfl⟩
      case rest =>
      obtain ⟨rfl, rfl⟩ := hcut
      have HDC : Hid ((decide (a < s ∧ s < d)) = decide (a < s ∧ s < d)) := rfl
      obtain ⟨bb, hbb⟩ : ∃ bb, decide (a < s ∧ s < d) = bb := ⟨_, rfl⟩
      have HBB := Lib.hid hbb
      rw [hbb]
      clear hbb HDC
      go_upto_if 199 with fail
      go_cut [24] (fun kv wx => kv = .int .i64 (e : Nat) ∧ Hid (St encS 1 W0 B D3 wx))
      case first =>
        cases bb with
        | true =>
          have kk := of_decide_eq_true HBB.out
          have HQB := Lib.hid (G3.out _ SA.out kk.1 kk.2)
          go_wp2_with fail
          refine HQB.out.mono ?_
          rintro E w' ⟨rfl, S2⟩
          go_wp2_with fail
          go_meet
          exact ⟨rfl, S2⟩
        | false =>
          have kk : D3 = D2 := G4.out (of_decide_eq_false HBB.out)
          go_wp2_with fail
          go_meet
          exact ⟨rfl, by rw [kk]; exact SA⟩
      case rest =>
      as_aux_lemma =>
      obtain ⟨rfl, SB⟩ := hcut
      go_upto_region 43 with fail
      go_cut [213] (fun bv wx => bv = .bool (decide (d < e ∧ e < b)) ∧ wx = wc)
      case first =>
        by_cases k1 : d < e
        · have k1z : (d : Int) < (e : Int) := by omega
          have k1d : decide ((d : Int) < (e : Int)) = true := decide_eq_true k1z
          by_cases k2 : e < b
          · have k2z : (e : Int) < (b : Int) := by omega
            have k2d : decide ((e : Int) < (b : Int)) = true := decide_eq_true k2z
            go_wp2_with fail
            go_meet
            exact ⟨by rw [decide_eq_true (And.intro k1 k2)], rfl⟩
          · have k2z : ¬ (e : Int) < (b : Int) := by omega
            have k2d : decide ((e : Int) < (b : Int)) = false := decide_eq_false k2z
            go_wp2_with fail
            go_meet
            exact ⟨by rw [decide_eq_false (fun h : d < e ∧ e < b => k2 h.2)], rfl⟩
        · have k1z : ¬ (d : Int) < (e : Int) := by omega
          have k1d : decide ((d : Int) < (e : Int)) = false := decide_eq_false k1z
          go_wp2_with fail
          go_meet
          exact ⟨by rw [decide_eq_false (fun h : d < e ∧ e < b => k1 h.1)], rfl⟩
      case rest =>
      obtain ⟨rfl, rfl⟩ := hcut
      obtain ⟨bb, hbb⟩ : ∃ bb, decide (d < e ∧ e < b) = bb := ⟨_, rfl⟩
      have HBB := Lib.hid hbb
      rw [hbb]
      clear hbb
      cases bb with
      | true =>
        have kk := of_decide_eq_true HBB.out
        have HQC := Lib.hid (G5.out _ SB.out kk.1 kk.2)
        go_wp2_with fail
        refine HQC.out.mono ?_
        rintro E w' ⟨rfl, S2⟩
        go_wp2_with fail
        go_end0
        exact ⟨rfl, S2⟩
      | false =>
        have kk : T = D3 := G6.out (of_decide_eq_false HBB.out)
        go_wp2_with fail
        go_end0
        exact ⟨rfl, by rw [kk]; exact SB.out⟩
end Go.Proofs.YtbgaglcgennhiaaGreatDoor
