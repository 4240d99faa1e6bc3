/-
  JidBounds.
-/
import Derived.Test.YtjclfpeccdlaoaaGreatDoorJdW
import Derived.Test.YtjclfpeccdlaoaaGreatDoorUint
namespace Go.Proofs.YtjclfpeccdlaoaaGreatDoor
open Go.RowKit Rg Tx

theorem rep_next (k : Nat) : Jd.rep (k + 1) = Jd.rep k ++ [97] := by
  unfold Jd.rep
  rw [List.replicate_succ']
set_option maxHeartbeats 1000000 in
theorem wordA_any (n : Nat) (N : Int) (hN : N = (n : Int)) (hn : n ≤ 1000) (w : World) :
    Calls Tryz.prog 19 #[.int .i64 N] w fun e w' => e = .returned (.string (bts (Jd.rep n))) ∧ w' = w := by
  subst hN
  go_enter Tryz.func19, Tryz.ntmps19
  go_wp2_with fail
  go_loop [3, 4] (fun sv iv => ∃ (k : Nat) (s : ByteArray), sv = .string s ∧ iv = .int .i64 k ∧ k ≤ n ∧ s.size ≤ 1000 ∧ Hid (s.data.toList = Jd.rep k)) (fun _ iv => n - (intOf iv).toNat)
  case atStart => exact ⟨0, ⟨#[]⟩, rfl, rfl, Nat.zero_le _, by decide, Lib.hid rfl⟩
  case round =>
    obtain ⟨k, s, rfl, rfl, hk, hs, hl⟩ := hrel
    by_cases hlt : k < n
    · have hl2 : Hid ((s ++ ⟨#[97]⟩).data.toList = Jd.rep (k + 1)) := by
        unfold Hid
        rw [cat_list, hl.out, rep_next]
      have hs2 : (s ++ (⟨#[97]⟩ : ByteArray)).size ≤ 1000 := by
        rw [Lib.size_eq, hl2.out, Jd.rep_len]
        omega
      go_wp2_with fail
      go_round
      case rel => exact ⟨k + 1, _, rfl, by go_num, by omega, hs2, hl2⟩
      case measure => simp [intOf]; omega
    · have hf : Hid (s = bts (Jd.rep n)) := by
        unfold Hid
        have hkn : k = n := by omega
        have := hl.out
        rw [hkn] at this
        exact bytes_of this
      go_wp2_with fail
      go_ret
      exact ⟨by rw [hf.out]; rfl, rfl⟩
def badCells : Array Value := #[.string ⟨#[]⟩, .string ⟨#[64, 97]⟩, .string ⟨#[97, 64]⟩, .string ⟨#[97, 47]⟩, .string ⟨#[47, 97]⟩, .string ⟨#[97, 64, 64, 98]⟩, .string ⟨#[97, 64, 45, 98]⟩, .string ⟨#[97, 64, 98, 45]⟩, .string ⟨#[97, 64, 98, 46, 46, 99]⟩, .string ⟨#[97, 64, 46, 98]⟩, .string ⟨#[46]⟩, .string ⟨#[97, 64, 98, 47]⟩]
def wantCells : Array Value := #[.int .i64 14, .int .i64 14, .int .i64 14, .int .i64 14, .int .i64 14, .int .i64 15, .int .i64 14, .int .i64 14, .int .i64 14, .int .i64 14, .int .i64 14, .int .i64 14]
theorem twelve {P : Nat → Prop} (h0 : P 0) (h1 : P 1) (h2 : P 2) (h3 : P 3) (h4 : P 4) (h5 : P 5) (h6 : P 6) (h7 : P 7) (h8 : P 8) (h9 : P 9) (h10 : P 10) (h11 : P 11) : ∀ i, i < 12 → P i := by
  intro i hi
  match i, hi with
  | 0, _ => exact h0
  | 1, _ => exact h1
  | 2, _ => exact h2
  | 3, _ => exact h3
  | 4, _ => exact h4
  | 5, _ => exact h5
  | 6, _ => exact h6
  | 7, _ => exact h7
  | 8, _ => exact h8
  | 9, _ => exact h9
  | 10, _ => exact h10
  | 11, _ => exact h11
theorem bad_cell : ∀ i, i < 12 → badCells[i]? = some (.string (bts (Jd.bads.getD i []))) := twelve rfl rfl rfl rfl rfl rfl rfl rfl rfl rfl rfl rfl
theorem bad_elem (i : Nat) (h : i < 12) (b : ByteArray) (hb : badCells[i]? = some (.string b)) : ([.string ⟨#[]⟩, .string ⟨#[64, 97]⟩, .string ⟨#[97, 64]⟩, .string ⟨#[97, 47]⟩, .string ⟨#[47, 97]⟩, .string ⟨#[97, 64, 64, 98]⟩, .string ⟨#[97, 64, 45, 98]⟩, .string ⟨#[97, 64, 98, 45]⟩, .string ⟨#[97, 64, 98, 46, 46, 99]⟩, .string ⟨#[97, 64, 46, 98]⟩, .string ⟨#[46]⟩, .string ⟨#[97, 64, 98, 47]⟩] : List Value)[i]'h = .string b := by
  rw [Array.getElem?_eq_getElem (show i < badCells.size from h)] at hb
  exact Option.some.inj hb
theorem want_cell : ∀ i, i < 12 → wantCells[i]? = some (.int .i64 (Jd.badE.getD i 0 : Nat)) := twelve rfl rfl rfl rfl rfl rfl rfl rfl rfl rfl rfl rfl
theorem bad_small : ∀ i, i < 12 → (Jd.bads.getD i []).length ≤ 6 := twelve (by decide) (by decide) (by decide) (by decide) (by decide) (by decide) (by decide) (by decide) (by decide) (by decide) (by decide) (by decide)
theorem dom_AB : twoV (Jd.domL (⟨#[65, 46, 66, 46]⟩ : ByteArray).data.toList) = .tuple #[.string ⟨#[97, 46, 98]⟩, .int .i64 0] := by
  rw [show (⟨#[65, 46, 66, 46]⟩ : ByteArray).data.toList = [65, 46, 66, 46] from rfl, Jd.dom_AB]
  rfl
set_option maxHeartbeats 16000000 in
theorem jidBounds_any (a b c t : Int) (w : World) (hO : Okw w) :
    Calls Tryz.prog 6 #[.int .i64 a, .int .i64 b, .int .i64 c, .int .i64 t] w (Holds w) := by
  have HA := Lib.hid (fun W (h : Below w.heap.size w W) => awake_any W (hO.below h))
  obtain ⟨x, hx, hx8⟩ := uintMod a 8 (by omega) (by omega)
  obtain ⟨y, hy, hy8⟩ := uintMod b 8 (by omega) (by omega)
  obtain ⟨z, hz, hz8⟩ := uintMod c 8 (by omega) (by omega)
  obtain ⟨i, hi, hi12⟩ := uintMod t 12 (by omega) (by omega)
  obtain ⟨n, hn⟩ : ∃ n, 60 + x = n := ⟨_, rfl⟩
  obtain ⟨m, hm⟩ : ∃ m, 96 + y = m := ⟨_, rfl⟩
  obtain ⟨k, hk⟩ : ∃ k, 60 + z = k := ⟨_, rfl⟩
  obtain ⟨N, hN⟩ : ∃ N : Int, 60 + (x : Int) = N := ⟨_, rfl⟩
  obtain ⟨M, hM⟩ : ∃ M : Int, 96 + (y : Int) = M := ⟨_, rfl⟩
  obtain ⟨K, hK⟩ : ∃ K : Int, 60 + (z : Int) = K := ⟨_, rfl⟩
  have W1 := Lib.hid (fun W => wordA_any n N (by omega) (by omega) W)
  have W2 := Lib.hid (fun W => wordA_any m M (by omega) (by omega) W)
  have W3 := Lib.hid (fun W => wordA_any k K (by omega) (by omega) W)
  obtain ⟨S1, hS1⟩ : ∃ S, bts (Jd.rep n) = S := ⟨_, rfl⟩
  obtain ⟨S2, hS2⟩ : ∃ S, bts (Jd.rep m) = S := ⟨_, rfl⟩
  obtain ⟨S3, hS3⟩ : ∃ S, bts (Jd.rep k) = S := ⟨_, rfl⟩
  rw [hS1] at W1
  rw [hS2] at W2
  rw [hS3] at W3
  have l1 : S1.data.toList = Jd.rep n := by rw [← hS1]
  have l2 : S2.data.toList = Jd.rep m := by rw [← hS2]
  have l3 : S3.data.toList = Jd.rep k := by rw [← hS3]
  have z1 : S1.size ≤ 70 := by rw [Lib.size_eq, l1, Jd.rep_len]; omega
  have z2 : S2.size ≤ 110 := by rw [Lib.size_eq, l2, Jd.rep_len]; omega
  have z3 : S3.size ≤ 70 := by rw [Lib.size_eq, l3, Jd.rep_len]; omega
  have hcat : (S1 ++ (⟨#[64]⟩ : ByteArray) ++ S2 ++ ⟨#[47]⟩ ++ S3).data.toList = Jd.rep n ++ [64] ++ Jd.rep m ++ [47] ++ Jd.rep k := by rw [cat_list, cat_list, cat_list, cat_list, l1, l2, l3]
  have HP := Lib.hid (fun W (h : Below w.heap.size w W) => parse_any (S1 ++ ⟨#[64]⟩ ++ S2 ++ ⟨#[47]⟩ ++ S3) W (hO.below h) (by
    rw [Lib.size_eq, hcat]
    simp only [List.length_append, Jd.rep_len, List.length_singleton]
    omega))
  rw [hcat] at HP
  have hval := Jd.rep_parse (n := n) (m := m) (k := k) (by omega) (by omega) (by omega)
  obtain ⟨p, hp⟩ : ∃ p, Jd.parseL (Jd.rep n ++ [64] ++ Jd.rep m ++ [47] ++ Jd.rep k) = p := ⟨_, rfl⟩
  rw [hp, jidnV_of] at HP
  rw [hp] at hval
  obtain ⟨p1, hp1⟩ : ∃ x, bts p.1.1 = x := ⟨_, rfl⟩
  obtain ⟨p2, hp2⟩ : ∃ x, bts p.1.2.1 = x := ⟨_, rfl⟩
  obtain ⟨p3, hp3⟩ : ∃ x, bts p.1.2.2 = x := ⟨_, rfl⟩
  rw [hp1, hp2, hp3] at HP
  have hi' : i < 12 := by omega
  have hbs := bad_small i hi'
  have hbe := Jd.bad_all i hi'
  have HB := Lib.hid (fun W (h : Below w.heap.size w W) => parse_any (bts (Jd.bads.getD i [])) W (hO.below h) (by rw [bts_size]; omega))
  rw [bts_list] at HB
  obtain ⟨q, hq⟩ : ∃ q, Jd.parseL (Jd.bads.getD i []) = q := ⟨_, rfl⟩
  rw [hq, jidnV_of] at HB
  rw [hq] at hbe
  obtain ⟨q1, hq1⟩ : ∃ x, bts q.1.1 = x := ⟨_, rfl⟩
  obtain ⟨q2, hq2⟩ : ∃ x, bts q.1.2.1 = x := ⟨_, rfl⟩
  obtain ⟨q3, hq3⟩ : ∃ x, bts q.1.2.2 = x := ⟨_, rfl⟩
  rw [hq1, hq2, hq3, hbe] at HB
  obtain ⟨E, hE⟩ : ∃ E : Int, ((Jd.badE.getD i 0 : Nat) : Int) = E := ⟨_, rfl⟩
  rw [hE] at HB
  obtain ⟨bs, hbs2⟩ : ∃ x, bts (Jd.bads.getD i []) = x := ⟨_, rfl⟩
  rw [hbs2] at HB
  have HBC := Lib.hid (bad_cell i hi')
  have HWC := Lib.hid (want_cell i hi')
  rw [hbs2] at HBC
  have HEL := Lib.hid (bad_elem i hi' bs HBC.out)
  rw [hE] at HWC
  have HD := Lib.hid (fun W (h : Below w.heap.size w W) => domain_any ⟨#[65, 46, 66, 46]⟩ W (hO.below h) (by decide))
  rw [dom_AB] at HD
  clear hcat hS1 hS2 hS3 l1 l2 l3 hp hp1 hp2 hp3 hq hq1 hq2 hq3 hE hbs2 hbs hbe hO
  have hval2 : (n ≤ 64 ∧ m ≤ 100 ∧ k ≤ 64 ∧ p.2 = 0) ∨ ((64 < n) ∧ p.2 = 14) ∨ (n ≤ 64 ∧ 100 < m ∧ p.2 = 14) ∨ (n ≤ 64 ∧ m ≤ 100 ∧ 64 < k ∧ p.2 = 14) := by
    by_cases g1 : n ≤ 64
    · by_cases g2 : m ≤ 100
      · by_cases g3 : k ≤ 64
        · rw [if_pos ⟨g1, g2, g3⟩] at hval; exact .inl ⟨g1, g2, g3, hval⟩
        · rw [if_neg (fun h => g3 h.2.2)] at hval; exact .inr (.inr (.inr ⟨g1, g2, by omega, hval⟩))
      · rw [if_neg (fun h => g2 h.2.1)] at hval; exact .inr (.inr (.inl ⟨g1, by omega, hval⟩))
    · rw [if_neg (fun h => g1 h.1)] at hval; exact .inr (.inl ⟨by omega, hval⟩)
  obtain ⟨pe, hpe⟩ : ∃ e : Int, ((p.2 : Nat) : Int) = e := ⟨_, rfl⟩
  rw [hpe] at HP
  have hval3 : (N ≤ 64 ∧ M ≤ 100 ∧ K ≤ 64 ∧ pe = 0) ∨ (64 < N ∧ pe = 14) ∨ (N ≤ 64 ∧ 100 < M ∧ pe = 14) ∨ (N ≤ 64 ∧ M ≤ 100 ∧ 64 < K ∧ pe = 14) := by omega
  clear hval hval2 hpe hn hm hk
  rcases hval3 with ⟨g1, g2, g3, rfl⟩ | ⟨g1, rfl⟩ | ⟨g1, g2, rfl⟩ | ⟨g1, g2, g3, rfl⟩
  all_goals
    go_enter Tryz.func6, Tryz.ntmps6
    go_wp2_with fail
    refine (W1.out w).mono ?_
    rintro e w1 ⟨rfl, rfl⟩
    go_wp2_with fail
    refine (W2.out _).mono ?_
    rintro e w2 ⟨rfl, rfl⟩
    go_wp2_with fail
    refine (W3.out _).mono ?_
    rintro e w3 ⟨rfl, rfl⟩
    go_wp2_with fail
    refine (HP.out w3 (Below.refl _ _)).mono ?_
    rintro e w4 ⟨rfl, b4⟩
    have B4 := Lib.hid b4
    clear b4
    have hel := Lib.hid HEL.out
    have hel1 := HEL.out
    go_wp2_with fail
    obtain ⟨w7, hw7⟩ : ∃ w7, ((w4.alloc (.cells #[.string p1, .string p2, .string p3] 23)).alloc (.cells badCells 9)).alloc (.cells wantCells 25) = w7 := ⟨_, rfl⟩
    have K7 : Hid (Bk w7 (w4.heap.size + 1 + 1) 25 wantCells) := by
      unfold Hid
      rw [← hw7]
      have h := Bk.new ((w4.alloc (.cells #[.string p1, .string p2, .string p3] 23)).alloc (.cells badCells 9)) 25 wantCells
      rwa [World.size_alloc, World.size_alloc] at h
    have B7 : Hid (Below w4.heap.size w4 w7) := by
      unfold Hid
      rw [← hw7]
      exact (((Below.refl _ w4).alloc (Nat.le_refl _) _).alloc (by simp) _).alloc (by simp; omega) _
    have Z7 := Lib.hid (B4.out.trans (B7.out.mono B4.out.size))
    unfold badCells wantCells at hw7
    rw [hw7]
    clear hw7 hel hel1
    refine (HB.out w7 Z7.out).mono ?_
    rintro e w8 ⟨rfl, b8⟩
    have Z8 := Lib.hid (Z7.out.trans (b8.mono Z7.out.size))
    have K8 := Lib.hid (K7.out.below b8 K7.out.lt)
    clear b8
    go_wp2_with fail
    have Z9 : Hid (Below w3.heap.size w3 (w8.alloc (.cells #[.string q1, .string q2, .string q3] 23))) := Z8.out.alloc Z8.out.size _
    have K9 := Lib.hid (K8.out.alloc (.cells #[.string q1, .string q2, .string q3] 23))
    refine (HD.out _ Z9.out).mono ?_
    rintro e w10 ⟨rfl, b10⟩
    have Z10 := Lib.hid (Z9.out.trans (b10.mono Z9.out.size))
    have K10 := Lib.hid (K9.out.below b10 K9.out.lt)
    clear b10
    go_wp2_with fail
    refine (HA.out w10 Z10.out).mono ?_
    rintro e w11 ⟨rfl, b11⟩
    have Z11 := Lib.hid (Z10.out.trans (b11.mono Z10.out.size))
    have K11 := Lib.hid (K10.out.below b11 K10.out.lt)
    have cw : w11.cell? ⟨w4.heap.size + 1 + 1, i, none⟩ = some (.int .i64 E) := by rw [K11.out.cell]; exact HWC.out
    clear b11
    go_wp2_with fail
    go_ret
    exact ⟨rfl, Z11.out⟩
end Go.Proofs.YtjclfpeccdlaoaaGreatDoor
