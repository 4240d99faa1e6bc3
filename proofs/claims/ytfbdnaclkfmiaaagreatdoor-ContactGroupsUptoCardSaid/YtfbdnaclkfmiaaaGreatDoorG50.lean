import Derived.Test.YtfbdnaclkfmiaaaGreatDoorG46
import Derived.Test.YtfbdnaclkfmiaaaGreatDoorG47
import Derived.Test.YtfbdnaclkfmiaaaGreatDoorG48
import Derived.Test.YtfbdnaclkfmiaaaGreatDoorG12
import Derived.Test.YtfbdnaclkfmiaaaGreatDoorG09
import Derived.Test.YtfbdnaclkfmiaaaGreatDoorG49
import Derived.Deep.RegionHeld3
/- what is reached of it -/
namespace Go.Proofs.YtfbdnaclkfmiaaaGreatDoor
open Go.RowKit Vc Ct Tx
theorem sepd_snocN (c : UInt8) : ∀ (xs : List (List UInt8)) (x : List UInt8), xs ≠ [] → sepd c (xs ++ [x]) = sepd c xs ++ c :: x
  | [], _, h => absurd rfl h
  | [a], x, _ => rfl
  | a :: b :: r, x, _ => by
    show a ++ c :: sepd c (b :: r ++ [x]) = (a ++ c :: sepd c (b :: r)) ++ c :: x
    rw [sepd_snocN c (b :: r) x (by simp)]
    simp
theorem sepS_first (x : List UInt8) : bts (sepd 44 (([] : List (List UInt8)).map val)) ++ bts (val x) = bts (sepd 44 (([] ++ [x] : List (List UInt8)).map val)) := by
  rw [cbts_app]
  rfl
theorem sepS_next (xs : List (List UInt8)) (x : List UInt8) (h : xs ≠ []) : (bts (sepd 44 (xs.map val)) ++ ⟨#[44]⟩) ++ bts (val x) = bts (sepd 44 ((xs ++ [x]).map val)) := by
  show (bts (sepd 44 (xs.map val)) ++ bts [44]) ++ bts (val x) = _
  rw [cbts_app, cbts_app, List.map_append, List.map_singleton, sepd_snocN 44 _ _ (by simpa using h), List.append_assoc]
  rfl
theorem sepS_size (xs : List (List UInt8)) (hl : xs.length ≤ 6) (h : ∀ x ∈ xs, line x 20 = true) : (bts (sepd 44 (xs.map val))).size ≤ 2000 := by
  have h1 := sepd_le 44 160 (xs.map val) (fun y hy => by
    obtain ⟨x, hx, rfl⟩ := List.mem_map.1 hy
    have h2 := Ct.line_len (n := 20) (h x hx)
    have h3 := val_len x
    omega)
  rw [List.length_map] at h1
  rw [Lib.size_eq]
  show (sepd 44 (xs.map val)).length ≤ 2000
  have h4 : xs.length * (160 + 1) ≤ 6 * 161 := Nat.mul_le_mul hl (Nat.le_refl _)
  omega
theorem letters_succ (n : Nat) : Ct.lettersL (n + 1) = Ct.lettersL n ++ [[UInt8.ofNat (97 + n)]] := by
  unfold Ct.lettersL
  rw [List.range_succ, List.map_append]
  rfl
theorem lets_next (n : Nat) (hn : 1 ≤ n) : (bts (sepd 44 (Ct.lettersL n)) ++ ⟨#[44]⟩) ++ bts [UInt8.ofNat (97 + n)] = bts (sepd 44 (Ct.lettersL (n + 1))) := by
  show (bts (sepd 44 (Ct.lettersL n)) ++ bts [44]) ++ bts [UInt8.ofNat (97 + n)] = _
  rw [cbts_app, cbts_app, letters_succ, sepd_snocN 44 _ _ (by intro e; have := congrArg List.length e; unfold Ct.lettersL at this; simp at this; omega), List.append_assoc]
  rfl
theorem lets_size (n : Nat) (hn : n ≤ 10) : (bts (sepd 44 (Ct.lettersL n))).size ≤ 40 := by
  have h1 := sepd_le 44 1 (Ct.lettersL n) (fun y hy => by
    obtain ⟨x, hx, rfl⟩ := List.mem_map.1 hy
    simp)
  have h2 : (Ct.lettersL n).length = n := by unfold Ct.lettersL; simp
  rw [h2] at h1
  rw [Lib.size_eq]
  show (sepd 44 (Ct.lettersL n)).length ≤ 40
  omega
theorem mod6_any (z : Int) : ∃ m : Nat, m < 5 ∧ wrap64 (6 + wrap64 ((IntKind.u64.wrap z).tmod 5)) = ((6 + m : Nat) : Int) := by
  have e : IntKind.u64.wrap z = z % 18446744073709551616 := by simp [IntKind.wrap, IntKind.bits, IntKind.signed]
  have h0 : 0 ≤ IntKind.u64.wrap z := by rw [e]; exact Int.emod_nonneg _ (by decide)
  rw [Int.tmod_eq_emod_of_nonneg h0]
  refine ⟨(IntKind.u64.wrap z % 5).toNat, by omega, ?_⟩
  have h1 : wrap64 (IntKind.u64.wrap z % 5) = IntKind.u64.wrap z % 5 := by unfold wrap64; omega
  rw [h1]
  unfold wrap64
  omega

set_option maxHeartbeats 16000000 in
set_option maxRecDepth 100000 in
theorem contactGroups_any (lv : Value) (xs : List ByteArray) (nn : Int) (w : World) (hO : OkwV w) (hR : ReadT w.heap.size w lv xs) (hxl : xs.length ≤ 10000000) (hxs : ∀ x ∈ xs, x.size ≤ 10000000) :
    Calls Tryz.prog 7 #[lv, .int .i64 nn] w fun e w' => e = .returned (.bool true) ∧ Below w.heap.size w w' := by
  obtain ⟨LA, lcap, rfl, hcell⟩ := hR
  have HCE : Hid (0 < xs.length → ∃ ad : Addr, LA = some ad ∧ ad.block < w.heap.size ∧ ∀ i b, xs[i]? = some b → w.cell? (ad.add i) = some (.string b)) := hcell
  have HLN := Lib.hid (fun x W (hx : x ∈ xs) => playLineL_any x 20 W (by have := hxs x hx; omega))
  have HO : Hid (∀ W, Below w.heap.size w W → OkwV W) := fun W h => hO.below h
  have HAW : Hid (∀ W, Below w.heap.size w W → Calls Tryz.prog 10 #[] W fun e w' => e = .returned (.bool true) ∧ Below W.heap.size W w') := fun W h => cawake_any W (hO.below h)
  obtain ⟨n, hn⟩ : ∃ n, xs.length = n := ⟨_, rfl⟩
  have HN := Lib.hid hn
  rw [hn] at hxl ⊢
  have HO0 : Hid (OwnT w.heap.size w (.slice none 0 0) (sts [])) := OwnT.nil _ _
  have HB0 : Hid (Below w.heap.size w w) := Below.refl _ _
  clear hcell hxs hO hn
  go_enter Tryz.func7, Tryz.ntmps7
  go_wp2_with fail
  go_loopw [5, 6, 7] (fun sv lv iv wr => ∃ (q : Nat) (lx : Value) (ys : List (List UInt8)), sv = .string (bts (sepd 44 (ys.map val))) ∧ lv = lx ∧ iv = .int .i64 q ∧ q ≤ n ∧ q ≤ 6 ∧ Hid (ys.length = q) ∧ Hid (OwnT w.heap.size wr lx (sts ys)) ∧ Hid (∀ x ∈ ys, line x 20 = true) ∧ Hid (Below w.heap.size w wr)) (fun _ _ iv _ => 6 - (intOf iv).toNat)
  case atStart => exact ⟨0, _, [], rfl, rfl, rfl, Nat.zero_le _, by omega, rfl, HO0, (fun x hx => by cases hx), HB0⟩
  case round =>
    obtain ⟨q, lx, ys, rfl, hlx, rfl, hq, hq6, YL, OY, LY, BY⟩ := hrel
    have hlx2 := hlx.symm
    subst hlx2
    clear hlx
    go_upto_region 4 with fail
    go_cut [22] from 15 to 23 (fun s wx => s = .bool (decide (q < n) && decide (q < 6)) ∧ wx = wr)
    case first =>
      by_cases hlt : q < n
      · have hltd : decide (q < n) = true := decide_eq_true hlt
        by_cases h4 : q < 6
        · have h4d : decide (q < 6) = true := decide_eq_true h4
          have h4i : decide ((q : Int) < 6) = true := decide_eq_true (by omega)
          go_wp2_with fail
          go_meet
          exact ⟨by rw [hltd, h4d]; first | rfl | (rw [h4i]; rfl), rfl⟩
        · have h4d : decide (q < 6) = false := decide_eq_false h4
          have h4i : decide ((q : Int) < 6) = false := decide_eq_false (by omega)
          go_wp2_with fail
          go_meet
          exact ⟨by rw [hltd, h4d]; first | (simp; done) | (simp; omega), rfl⟩
      · have hltd : decide (q < n) = false := decide_eq_false hlt
        go_wp2_with fail
        go_meet
        exact ⟨by rw [hltd]; rfl, rfl⟩
    case rest =>
    obtain ⟨hsl9, hwc⟩ := hcut
    have hwc2 := hwc.symm
    subst hwc2
    clear hwc
    obtain ⟨cb, hcb⟩ : ∃ b, (decide (q < n) && decide (q < 6)) = b := ⟨_, rfl⟩
    rw [hcb] at hsl9
    subst hsl9
    cases cb with
    | true =>
      obtain ⟨hlt9, h49⟩ := Bool.and_eq_true_iff.1 hcb
      have hlt : q < n := of_decide_eq_true hlt9
      have h4 : q < 6 := of_decide_eq_true h49
      clear hlt9 h49 hcb
      obtain ⟨ad, rfl, hlb, hc⟩ := HCE.out (by rw [HN.out]; omega)
      obtain ⟨x, hx⟩ : ∃ x, xs[q]? = some x := ⟨_, List.getElem?_eq_getElem (by rw [HN.out]; exact hlt)⟩
      have cx := hc q x hx
      rw [← BY.out.cell (p := ad.add q) (by rw [addBlock]; exact hlb)] at cx
      have HLX := Lib.hid (HLN.out x wr (List.mem_of_getElem? hx))
      obtain ⟨YA, yn, ycap, rfl⟩ : ∃ A n cap, lx = .slice A n cap := by obtain ⟨A, cap, e⟩ := OY.out.slice; exact ⟨A, _, cap, e⟩
      have ZR : Hid (w.heap.size ≤ wr.heap.size) := BY.out.size
      have hsz := sepS_size ys (by have := YL.out; omega) LY.out
      have HS1 := Lib.hid (fun (v : List UInt8) (h : ys = []) => (by subst h; exact sepS_first v : bts (sepd 44 (ys.map val)) ++ bts (val v) = bts (sepd 44 ((ys ++ [v]).map val))))
      have HS2 := Lib.hid (fun (v : List UInt8) (h : ys ≠ []) => sepS_next ys v h)
      obtain ⟨S, hS⟩ : ∃ S, bts (sepd 44 (ys.map val)) = S := ⟨_, rfl⟩
      rw [hS] at hsz HS1 HS2 ⊢
      clear hc hlb hx hS
      go_wp2_with fail
      refine HLX.out.mono ?_
      rintro e w5 ⟨⟨vx, rfl, -, -, -, hl⟩, b5⟩
      have LX := Lib.hid (hl (by decide))
      have OY5 := Lib.hid (OY.out.below b5)
      have Z5 : Hid (w.heap.size ≤ w5.heap.size) := Nat.le_trans ZR.out b5.size
      have BY5 : Hid (Below w.heap.size w w5) := BY.out.trans (b5.mono BY.out.size)
      have hyl : Hid ((sts ys).length ≤ 1000000000000) := by have := YL.out; unfold Hid sts; rw [List.length_map]; omega
      have hvs : vx.size ≤ 80 := by have := Ct.line_len (n := 20) LX.out; rw [Lib.size_eq]; omega
      have HRV : Hid (Calls Tryz.prog 24 #[.string vx] w5 fun e w' => e = .returned (.string (bts (val vx.data.toList))) ∧ w5 = w') := rvalue_any vx w5 (by omega)
      have hvv : (bts (val vx.data.toList)).size ≤ 160 := by
        have := val_len vx.data.toList
        rw [Lib.size_eq] at hvs ⊢
        show (val vx.data.toList).length ≤ 160
        omega
      have HS1v := Lib.hid (HS1.out vx.data.toList)
      have HS2v := Lib.hid (HS2.out vx.data.toList)
      obtain ⟨V, hV⟩ : ∃ V, bts (val vx.data.toList) = V := ⟨_, rfl⟩
      rw [hV] at HRV hvv HS1v HS2v
      clear hl b5 cx hV HS1 HS2 HLX hvs
      by_cases h0 : 0 < q
      · have h0z : (0 : Int) < (q : Int) := by omega
        have hye : Hid (ys ≠ []) := by have := YL.out; intro e; rw [e] at this; simp at this; omega
        have hcc : ¬ (9223372036854775807 < S.size + V.size) := by omega
        have hcc1 : ¬ (9223372036854775807 < S.size + 1) := by omega
        have hcc2 : ¬ (9223372036854775807 < S.size + 1 + V.size) := by omega
        go_wp2_with fail
        refine HRV.out.mono ?_
        rintro e w6 ⟨rfl, rfl⟩
        go_wp2_with (at_builtin; refine push_str rfl _ _ rfl w.heap.size (.slice YA yn ycap) (sts ys) vx w5 rfl OY5.out rfl hyl.out Z5.out ?_)
        intro v7 w7 o7 b7
        have O7 : Hid (OwnT w.heap.size w7 v7 (sts (ys ++ [vx.data.toList]))) := by
          unfold Hid
          rw [sts_append]
          show OwnT w.heap.size w7 v7 (sts ys ++ [bts vx.data.toList])
          rw [show bts vx.data.toList = vx from rfl]
          exact o7
        have B7 : Hid (Below w.heap.size w w7) := BY5.out.trans b7
        have A7 : Hid (∀ x ∈ ys ++ [vx.data.toList], line x 20 = true) := fun x hx => by
          rcases List.mem_append.1 hx with hx | hx
          · exact LY.out x hx
          · rw [List.mem_singleton] at hx; rw [hx]; exact LX.out
        clear o7 b7
        go_wp2_with fail
        go_roundw
        case rel => exact ⟨q + 1, _, ys ++ [vx.data.toList], by rw [HS2v.out hye.out], rfl, by go_num, by omega, by omega, by have := YL.out; unfold Hid; rw [List.length_append, this]; rfl, O7, A7, B7⟩
        case measure => simp [intOf]; omega
      · have h0z : ¬ (0 : Int) < (q : Int) := by omega
        have hye : Hid (ys = []) := by have := YL.out; unfold Hid; exact List.length_eq_zero_iff.1 (by omega)
        have hcc : ¬ (9223372036854775807 < S.size + V.size) := by omega
        have hcc1 : ¬ (9223372036854775807 < S.size + 1) := by omega
        have hcc2 : ¬ (9223372036854775807 < S.size + 1 + V.size) := by omega
        go_wp2_with fail
        refine HRV.out.mono ?_
        rintro e w6 ⟨rfl, rfl⟩
        go_wp2_with (at_builtin; refine push_str rfl _ _ rfl w.heap.size (.slice YA yn ycap) (sts ys) vx w5 rfl OY5.out rfl hyl.out Z5.out ?_)
        intro v7 w7 o7 b7
        have O7 : Hid (OwnT w.heap.size w7 v7 (sts (ys ++ [vx.data.toList]))) := by
          unfold Hid
          rw [sts_append]
          show OwnT w.heap.size w7 v7 (sts ys ++ [bts vx.data.toList])
          rw [show bts vx.data.toList = vx from rfl]
          exact o7
        have B7 : Hid (Below w.heap.size w w7) := BY5.out.trans b7
        have A7 : Hid (∀ x ∈ ys ++ [vx.data.toList], line x 20 = true) := fun x hx => by
          rcases List.mem_append.1 hx with hx | hx
          · exact LY.out x hx
          · rw [List.mem_singleton] at hx; rw [hx]; exact LX.out
        clear o7 b7
        go_wp2_with fail
        go_roundw
        case rel => exact ⟨q + 1, _, ys ++ [vx.data.toList], by rw [HS1v.out hye.out], rfl, by go_num, by omega, by omega, by have := YL.out; unfold Hid; rw [List.length_append, this]; rfl, O7, A7, B7⟩
        case measure => simp [intOf]; omega
    | false =>
      obtain ⟨w1, rfl⟩ : ∃ w1, w1 = wr := ⟨_, rfl⟩
      clear hcb HLN HCE
      have HGR := Lib.hid (fun W (h : Below w1.heap.size w1 W) => rgroups_any lx ys W (OY.out.reads.upon h) (by have := YL.out; omega))
      have hof := groups_of (l := ys) (by have := YL.out; omega) LY.out
      have hsz := sepS_size ys (by have := YL.out; omega) LY.out
      obtain ⟨YA, yn, ycap, rfl⟩ : ∃ A n cap, lx = .slice A n cap := by obtain ⟨A, cap, e⟩ := OY.out.slice; exact ⟨A, _, cap, e⟩
      obtain ⟨SL, hSL⟩ : ∃ L, sepd 44 (ys.map val) = L := ⟨_, rfl⟩
      rw [hSL] at hof hsz ⊢
      obtain ⟨GL, hGL⟩ : ∃ L, groupsL ys = L := ⟨_, rfl⟩
      rw [hGL] at hof HGR
      have HGS : Hid ((sts GL).length ≤ 140737488355328) := by rw [← hGL]; unfold Hid sts; rw [List.length_map]; have := groups_len ys; have := YL.out; omega
      obtain ⟨W1, hW1⟩ : ∃ W, w1.alloc (.cells #[.string ⟨#[]⟩, .string ⟨#[67, 65, 84, 69, 71, 79, 82, 73, 69, 83]⟩, .slice none 0 0, .string (bts SL), .string ⟨#[]⟩, .string ⟨#[70, 78]⟩, .slice none 0 0, .string ⟨#[110]⟩] 41) = W := ⟨_, rfl⟩
      have HOF := Lib.hid (of_lit (l := [(nCAT, SL), (nFN, [110])]) (HO.out w1 BY.out) hW1.symm 2 (by
        have h1 : SL.length ≤ 2000 := by rw [Lib.size_eq] at hsz; exact hsz
        show costC [([], nCAT, [], SL), ([], nFN, [], [110])] ≤ 90000
        rw [costC_cons, costC_cons, costC_nil]
        unfold costP
        show 5 + 0 + 10 + SL.length + 0 + (5 + 0 + 2 + 1 + 0 + 0) ≤ 90000
        omega) hof)
      obtain ⟨P, hP⟩ : ∃ P, w1.heap.size = P := ⟨_, rfl⟩
      have HPP := Lib.hid hP
      rw [hP] at HOF
      obtain ⟨S, hS⟩ : ∃ S, bts SL = S := ⟨_, rfl⟩
      have HSE := Lib.hid hS
      have HGLE := Lib.hid hGL
      rw [hS] at hW1 ⊢
      clear hof hsz hSL hGL hS
      go_wp2_with fail
      refine HOF.out.mono ?_
      rintro e w2 ⟨⟨g, o, rfl, rg, ro⟩, b2⟩
      rw [← HPP.out] at b2
      obtain ⟨gA, gl, gcap, rfl⟩ : ∃ A n cap, g = .slice A n cap := by obtain ⟨A, cap, e, _⟩ := rg; exact ⟨A, _, cap, e⟩
      obtain ⟨oA, ol, ocap, rfl⟩ : ∃ A n cap, o = .slice A n cap := by obtain ⟨A, cap, e, _⟩ := ro; exact ⟨A, _, cap, e⟩
      have B2 : Hid (Below w1.heap.size w1 w2) := b2
      have RG : Hid (ReadT w2.heap.size w2 (.slice gA gl gcap) (sts GL)) := rg
      have hag : agC { noneC with name := [110], groups := GL } (.slice gA gl gcap) (.slice oA ol ocap) = .agg #[.string ⟨#[110]⟩, .string ⟨#[]⟩, .string ⟨#[]⟩, .string ⟨#[]⟩, .string ⟨#[]⟩, .string ⟨#[]⟩, .string ⟨#[]⟩, .string ⟨#[]⟩, .string ⟨#[]⟩, .slice gA gl gcap, .slice oA ol ocap] := rfl
      rw [hag]
      obtain ⟨W3, hW3⟩ : ∃ W, w2.alloc (.cells #[.string ⟨#[110]⟩, .string ⟨#[]⟩, .string ⟨#[]⟩, .string ⟨#[]⟩, .string ⟨#[]⟩, .string ⟨#[]⟩, .string ⟨#[]⟩, .string ⟨#[]⟩, .string ⟨#[]⟩, .slice gA gl gcap, .slice oA ol ocap] 25) = W := ⟨_, rfl⟩
      obtain ⟨C, hC⟩ : ∃ g, w2.heap.size = g := ⟨_, rfl⟩
      have K3 : Hid (Bk W3 C 25 #[.string ⟨#[110]⟩, .string ⟨#[]⟩, .string ⟨#[]⟩, .string ⟨#[]⟩, .string ⟨#[]⟩, .string ⟨#[]⟩, .string ⟨#[]⟩, .string ⟨#[]⟩, .string ⟨#[]⟩, .slice gA gl gcap, .slice oA ol ocap]) := by rw [← hW3, ← hC]; exact Bk.new _ _ _
      have b3 : Below w2.heap.size w2 W3 := by rw [← hW3]; exact (Below.refl _ _).alloc (Nat.le_refl _) _
      have B3 : Hid (Below w1.heap.size w1 W3) := B2.out.trans (b3.mono B2.out.size)
      have RG3 := Lib.hid (RG.out.upon b3)
      have HW3 := Lib.hid hW3
      have HC := Lib.hid hC
      clear b2 rg ro hag hW3 hC b3 hW1 hP HOF
      obtain ⟨m, hm5, hmod⟩ := mod6_any nn
      go_upto_region 12 with fail
      (try rw [HW3.out])
      (try rw [HC.out])
      (try rw [hmod])
      obtain ⟨N, hNN⟩ : ∃ N, 6 + m = N := ⟨_, rfl⟩
      rw [hNN]
      have HM : Hid (6 + m = N ∧ m < 5) := ⟨hNN, hm5⟩
      have hN10 : N ≤ 10 := by omega
      have hN6 : 6 ≤ N := by omega
      have HT1 : Hid ((⟨#[97]⟩ : ByteArray) = bts (sepd 44 (Ct.lettersL 1))) := rfl
      clear hmod hm5 hNN
      have HB0 : Hid (Below W3.heap.size W3 W3) := Below.refl _ _
      go_wp2_with fail
      go_loopw [11, 12] (fun tv iv wr => ∃ k : Nat, tv = .string (bts (sepd 44 (Ct.lettersL k))) ∧ iv = .int .i64 (k : Nat) ∧ 1 ≤ k ∧ k ≤ N ∧ Hid (Below W3.heap.size W3 wr)) (fun _ iv _ => N - (intOf iv).toNat)
      case atStart => exact ⟨1, by rw [← HT1.out], rfl, Nat.le_refl _, by omega, HB0⟩
      case round =>
        obtain ⟨k, rfl, rfl, hk1, hkN, BW⟩ := hrel
        by_cases hlt : k < N
        · have hltz : (k : Int) < (N : Int) := by omega
          have hsz := lets_size k (by omega)
          have hnx := lets_next k hk1
          obtain ⟨T, hT⟩ : ∃ T, bts (sepd 44 (Ct.lettersL k)) = T := ⟨_, rfl⟩
          rw [hT] at hsz hnx ⊢
          have HNX := Lib.hid hnx
          have hcc1 : ¬ (9223372036854775807 < T.size + 1) := by omega
          have hcc2 : ¬ (9223372036854775807 < T.size + 1 + 1) := by omega
          clear hnx hT hsz
          have hkk : k = 1 ∨ k = 2 ∨ k = 3 ∨ k = 4 ∨ k = 5 ∨ k = 6 ∨ k = 7 ∨ k = 8 ∨ k = 9 := by omega
          clear hk1
          rcases hkk with rfl | rfl | rfl | rfl | rfl | rfl | rfl | rfl | rfl
          · skip
            obtain ⟨Wa, hWa⟩ : ∃ z, wr.alloc (.cells #[.int .u8 98] 5) = z := ⟨_, rfl⟩
            obtain ⟨h, hh⟩ : ∃ z, wr.heap.size = z := ⟨_, rfl⟩
            have hb0 : (convert 50 9 (.slice (some ⟨h, 0, none⟩) 1 1)).run Tryz.prog Wa = .ok (.string ⟨#[98]⟩) Wa := by rw [← hWa, ← hh]; exact oneByteN Tryz.underlying50 Tryz.underlying5 Tryz.underlying9 98 wr
            have BA : Hid (Below W3.heap.size W3 Wa) := by rw [← hWa]; exact BW.out.alloc BW.out.size _
            go_wp2_with fail
            go_roundw
            case rel => exact ⟨2, by first | exact congrArg Value.string HNX.out | (rw [← HNX.out]; rfl), by go_num, by omega, by omega, BA⟩
            case measure => simp [intOf]; omega
          · skip
            obtain ⟨Wa, hWa⟩ : ∃ z, wr.alloc (.cells #[.int .u8 99] 5) = z := ⟨_, rfl⟩
            obtain ⟨h, hh⟩ : ∃ z, wr.heap.size = z := ⟨_, rfl⟩
            have hb0 : (convert 50 9 (.slice (some ⟨h, 0, none⟩) 1 1)).run Tryz.prog Wa = .ok (.string ⟨#[99]⟩) Wa := by rw [← hWa, ← hh]; exact oneByteN Tryz.underlying50 Tryz.underlying5 Tryz.underlying9 99 wr
            have BA : Hid (Below W3.heap.size W3 Wa) := by rw [← hWa]; exact BW.out.alloc BW.out.size _
            go_wp2_with fail
            go_roundw
            case rel => exact ⟨3, by first | exact congrArg Value.string HNX.out | (rw [← HNX.out]; rfl), by go_num, by omega, by omega, BA⟩
            case measure => simp [intOf]; omega
          · skip
            obtain ⟨Wa, hWa⟩ : ∃ z, wr.alloc (.cells #[.int .u8 100] 5) = z := ⟨_, rfl⟩
            obtain ⟨h, hh⟩ : ∃ z, wr.heap.size = z := ⟨_, rfl⟩
            have hb0 : (convert 50 9 (.slice (some ⟨h, 0, none⟩) 1 1)).run Tryz.prog Wa = .ok (.string ⟨#[100]⟩) Wa := by rw [← hWa, ← hh]; exact oneByteN Tryz.underlying50 Tryz.underlying5 Tryz.underlying9 100 wr
            have BA : Hid (Below W3.heap.size W3 Wa) := by rw [← hWa]; exact BW.out.alloc BW.out.size _
            go_wp2_with fail
            go_roundw
            case rel => exact ⟨4, by first | exact congrArg Value.string HNX.out | (rw [← HNX.out]; rfl), by go_num, by omega, by omega, BA⟩
            case measure => simp [intOf]; omega
          · skip
            obtain ⟨Wa, hWa⟩ : ∃ z, wr.alloc (.cells #[.int .u8 101] 5) = z := ⟨_, rfl⟩
            obtain ⟨h, hh⟩ : ∃ z, wr.heap.size = z := ⟨_, rfl⟩
            have hb0 : (convert 50 9 (.slice (some ⟨h, 0, none⟩) 1 1)).run Tryz.prog Wa = .ok (.string ⟨#[101]⟩) Wa := by rw [← hWa, ← hh]; exact oneByteN Tryz.underlying50 Tryz.underlying5 Tryz.underlying9 101 wr
            have BA : Hid (Below W3.heap.size W3 Wa) := by rw [← hWa]; exact BW.out.alloc BW.out.size _
            go_wp2_with fail
            go_roundw
            case rel => exact ⟨5, by first | exact congrArg Value.string HNX.out | (rw [← HNX.out]; rfl), by go_num, by omega, by omega, BA⟩
            case measure => simp [intOf]; omega
          · skip
            obtain ⟨Wa, hWa⟩ : ∃ z, wr.alloc (.cells #[.int .u8 102] 5) = z := ⟨_, rfl⟩
            obtain ⟨h, hh⟩ : ∃ z, wr.heap.size = z := ⟨_, rfl⟩
            have hb0 : (convert 50 9 (.slice (some ⟨h, 0, none⟩) 1 1)).run Tryz.prog Wa = .ok (.string ⟨#[102]⟩) Wa := by rw [← hWa, ← hh]; exact oneByteN Tryz.underlying50 Tryz.underlying5 Tryz.underlying9 102 wr
            have BA : Hid (Below W3.heap.size W3 Wa) := by rw [← hWa]; exact BW.out.alloc BW.out.size _
            go_wp2_with fail
            go_roundw
            case rel => exact ⟨6, by first | exact congrArg Value.string HNX.out | (rw [← HNX.out]; rfl), by go_num, by omega, by omega, BA⟩
            case measure => simp [intOf]; omega
          · skip
            obtain ⟨Wa, hWa⟩ : ∃ z, wr.alloc (.cells #[.int .u8 103] 5) = z := ⟨_, rfl⟩
            obtain ⟨h, hh⟩ : ∃ z, wr.heap.size = z := ⟨_, rfl⟩
            have hb0 : (convert 50 9 (.slice (some ⟨h, 0, none⟩) 1 1)).run Tryz.prog Wa = .ok (.string ⟨#[103]⟩) Wa := by rw [← hWa, ← hh]; exact oneByteN Tryz.underlying50 Tryz.underlying5 Tryz.underlying9 103 wr
            have BA : Hid (Below W3.heap.size W3 Wa) := by rw [← hWa]; exact BW.out.alloc BW.out.size _
            go_wp2_with fail
            go_roundw
            case rel => exact ⟨7, by first | exact congrArg Value.string HNX.out | (rw [← HNX.out]; rfl), by go_num, by omega, by omega, BA⟩
            case measure => simp [intOf]; omega
          · skip
            obtain ⟨Wa, hWa⟩ : ∃ z, wr.alloc (.cells #[.int .u8 104] 5) = z := ⟨_, rfl⟩
            obtain ⟨h, hh⟩ : ∃ z, wr.heap.size = z := ⟨_, rfl⟩
            have hb0 : (convert 50 9 (.slice (some ⟨h, 0, none⟩) 1 1)).run Tryz.prog Wa = .ok (.string ⟨#[104]⟩) Wa := by rw [← hWa, ← hh]; exact oneByteN Tryz.underlying50 Tryz.underlying5 Tryz.underlying9 104 wr
            have BA : Hid (Below W3.heap.size W3 Wa) := by rw [← hWa]; exact BW.out.alloc BW.out.size _
            go_wp2_with fail
            go_roundw
            case rel => exact ⟨8, by first | exact congrArg Value.string HNX.out | (rw [← HNX.out]; rfl), by go_num, by omega, by omega, BA⟩
            case measure => simp [intOf]; omega
          · skip
            obtain ⟨Wa, hWa⟩ : ∃ z, wr.alloc (.cells #[.int .u8 105] 5) = z := ⟨_, rfl⟩
            obtain ⟨h, hh⟩ : ∃ z, wr.heap.size = z := ⟨_, rfl⟩
            have hb0 : (convert 50 9 (.slice (some ⟨h, 0, none⟩) 1 1)).run Tryz.prog Wa = .ok (.string ⟨#[105]⟩) Wa := by rw [← hWa, ← hh]; exact oneByteN Tryz.underlying50 Tryz.underlying5 Tryz.underlying9 105 wr
            have BA : Hid (Below W3.heap.size W3 Wa) := by rw [← hWa]; exact BW.out.alloc BW.out.size _
            go_wp2_with fail
            go_roundw
            case rel => exact ⟨9, by first | exact congrArg Value.string HNX.out | (rw [← HNX.out]; rfl), by go_num, by omega, by omega, BA⟩
            case measure => simp [intOf]; omega
          · skip
            obtain ⟨Wa, hWa⟩ : ∃ z, wr.alloc (.cells #[.int .u8 106] 5) = z := ⟨_, rfl⟩
            obtain ⟨h, hh⟩ : ∃ z, wr.heap.size = z := ⟨_, rfl⟩
            have hb0 : (convert 50 9 (.slice (some ⟨h, 0, none⟩) 1 1)).run Tryz.prog Wa = .ok (.string ⟨#[106]⟩) Wa := by rw [← hWa, ← hh]; exact oneByteN Tryz.underlying50 Tryz.underlying5 Tryz.underlying9 106 wr
            have BA : Hid (Below W3.heap.size W3 Wa) := by rw [← hWa]; exact BW.out.alloc BW.out.size _
            go_wp2_with fail
            go_roundw
            case rel => exact ⟨10, by first | exact congrArg Value.string HNX.out | (rw [← HNX.out]; rfl), by go_num, by omega, by omega, BA⟩
            case measure => simp [intOf]; omega
        · have hltz : ¬ (k : Int) < (N : Int) := by omega
          obtain rfl : k = N := by omega
          clear hlt hltz
          obtain ⟨hm6, hm5⟩ := HM.out
          have hle := letters_of m hm5
          rw [hm6] at hle
          obtain ⟨w4, rfl⟩ : ∃ w4, w4 = wr := ⟨_, rfl⟩
          have B4 : Hid (Below w1.heap.size w1 w4) := B3.out.trans (BW.out.mono B3.out.size)
          have K4 : Hid (Bk w4 C 25 #[.string ⟨#[110]⟩, .string ⟨#[]⟩, .string ⟨#[]⟩, .string ⟨#[]⟩, .string ⟨#[]⟩, .string ⟨#[]⟩, .string ⟨#[]⟩, .string ⟨#[]⟩, .string ⟨#[]⟩, .slice gA gl gcap, .slice oA ol ocap]) := K3.out.below BW.out K3.out.lt
          have RG4 := Lib.hid (RG3.out.upon BW.out)
          have hts := lets_size k (by omega)
          have HLL : Hid ((Ct.lettersL k).length = k) := by unfold Hid Ct.lettersL; simp
          obtain ⟨LL, hLL⟩ : ∃ L, Ct.lettersL k = L := ⟨_, rfl⟩
          rw [hLL] at hle hts HLL ⊢
          obtain ⟨TL, hTL⟩ : ∃ L, sepd 44 LL = L := ⟨_, rfl⟩
          rw [hTL] at hle hts ⊢
          have hcost : costC (litP [(nFN, [110]), (nCAT, TL)]) ≤ 90000 := by
            have h1 : TL.length ≤ 40 := by rw [Lib.size_eq] at hts; exact hts
            show costC [([], nFN, [], [110]), ([], nCAT, [], TL)] ≤ 90000
            rw [costC_cons, costC_cons, costC_nil]
            unfold costP
            show 5 + 0 + 2 + 1 + 0 + (5 + 0 + 10 + TL.length + 0 + 0) ≤ 90000
            omega
          obtain ⟨W5, hW5⟩ : ∃ W, w4.alloc (.cells #[.string ⟨#[]⟩, .string ⟨#[70, 78]⟩, .slice none 0 0, .string ⟨#[110]⟩, .string ⟨#[]⟩, .string ⟨#[67, 65, 84, 69, 71, 79, 82, 73, 69, 83]⟩, .slice none 0 0, .string (bts TL)] 41) = W := ⟨_, rfl⟩
          have HCO := Lib.hid hcost
          have HLE := Lib.hid hle
          clear hcost hle hts hLL hTL BW
          by_cases hm2 : m ≤ 2
          · have hle2 := HLE.out
            rw [if_pos hm2] at hle2
            have hof2 := of_lit (l := [(nFN, [110]), (nCAT, TL)]) (HO.out w4 (BY.out.trans (B4.out.mono BY.out.size))) hW5.symm 2 HCO.out hle2
            have hd8 : (k : Int) ≤ 8 := by omega
            have hd8b : decide ((k : Int) ≤ 8) = true := decide_eq_true hd8
            have HOF2 := Lib.hid hof2
            obtain ⟨P, hP⟩ : ∃ P, w4.heap.size = P := ⟨_, rfl⟩
            have HPP := Lib.hid hP
            rw [hP] at HOF2
            obtain ⟨T, hT⟩ : ∃ T, bts TL = T := ⟨_, rfl⟩
            rw [hT] at hW5 ⊢
            clear hof2 hle2 hT
            go_wp2_with fail
            refine HOF2.out.mono ?_
            rintro e w6 ⟨⟨g, o, rfl, rg, ro⟩, b6⟩
            rw [← HPP.out] at b6
            obtain ⟨hA, hl, hcap, rfl⟩ : ∃ A n cap, g = .slice A n cap := by obtain ⟨A, cap, e, _⟩ := rg; exact ⟨A, _, cap, e⟩
            obtain ⟨pA, pl, pcap, rfl⟩ : ∃ A n cap, o = .slice A n cap := by obtain ⟨A, cap, e, _⟩ := ro; exact ⟨A, _, cap, e⟩
            have hlk : hl = k := by
              obtain ⟨A, cap, e, _⟩ := rg
              have e2 := (Value.slice.inj e).2.1
              rw [e2]
              show (sts LL).length = k
              unfold sts
              rw [List.length_map]
              exact HLL.out
            subst hlk
            have B6 : Hid (Below w4.heap.size w4 w6) := b6
            have hag : agC { noneC with name := [110], groups := LL } (.slice hA hl hcap) (.slice pA pl pcap) = .agg #[.string ⟨#[110]⟩, .string ⟨#[]⟩, .string ⟨#[]⟩, .string ⟨#[]⟩, .string ⟨#[]⟩, .string ⟨#[]⟩, .string ⟨#[]⟩, .string ⟨#[]⟩, .string ⟨#[]⟩, .slice hA hl hcap, .slice pA pl pcap] := rfl
            rw [hag]
            obtain ⟨W7, hW7⟩ : ∃ W, w6.alloc (.cells #[.string ⟨#[110]⟩, .string ⟨#[]⟩, .string ⟨#[]⟩, .string ⟨#[]⟩, .string ⟨#[]⟩, .string ⟨#[]⟩, .string ⟨#[]⟩, .string ⟨#[]⟩, .string ⟨#[]⟩, .slice hA hl hcap, .slice pA pl pcap] 25) = W := ⟨_, rfl⟩
            obtain ⟨D, hD⟩ : ∃ g, w6.heap.size = g := ⟨_, rfl⟩
            have K7 : Hid (Bk W7 D 25 #[.string ⟨#[110]⟩, .string ⟨#[]⟩, .string ⟨#[]⟩, .string ⟨#[]⟩, .string ⟨#[]⟩, .string ⟨#[]⟩, .string ⟨#[]⟩, .string ⟨#[]⟩, .string ⟨#[]⟩, .slice hA hl hcap, .slice pA pl pcap]) := by rw [← hW7, ← hD]; exact Bk.new _ _ _
            have b7 : Below w6.heap.size w6 W7 := by rw [← hW7]; exact (Below.refl _ _).alloc (Nat.le_refl _) _
            have b47 : Below w4.heap.size w4 W7 := B6.out.trans (b7.mono B6.out.size)
            have C7 : Hid (Bk W7 C 25 #[.string ⟨#[110]⟩, .string ⟨#[]⟩, .string ⟨#[]⟩, .string ⟨#[]⟩, .string ⟨#[]⟩, .string ⟨#[]⟩, .string ⟨#[]⟩, .string ⟨#[]⟩, .string ⟨#[]⟩, .slice gA gl gcap, .slice oA ol ocap]) := K4.out.below b47 K4.out.lt
            have RG7 := Lib.hid (RG4.out.upon b47)
            have HUP : Hid (∀ V, Below W7.heap.size W7 V → Below w1.heap.size w1 V) := fun V h => (B4.out.trans (b47.mono B4.out.size)).trans (h.mono (B4.out.trans (b47.mono B4.out.size)).size)
            have HW7 := Lib.hid hW7
            have HD := Lib.hid hD
            clear b6 rg ro hag hW7 hD b7 b47 hW5 hP HOF2
            go_upto_region 18 with fail
            (try rw [HW7.out])
            (try rw [HD.out])
            have HXC : Hid (∀ W, Below W7.heap.size W7 W → W.cell? ⟨C, 9, none⟩ = some (.slice gA gl gcap)) := fun W h => (C7.out.below h C7.out.lt).cell 9
            have HXD : Hid (∀ W, Below W7.heap.size W7 W → W.cell? ⟨D, 9, none⟩ = some (.slice hA hl hcap)) := fun W h => (K7.out.below h K7.out.lt).cell 9
            have h0 : ((0 : Int) == 0) = true := rfl
            have h12 : ((12 : Int) == 12) = true := rfl
            have hkk : ((hl : Int) == (hl : Int)) = true := by simp
            have bN : Below W7.heap.size W7 W7.drew := (Below.refl _ _).drew
            refine wp_region_held_drew (S := fun w' => Below W7.heap.size W7 w' ∧ w'.cell? ⟨C, 9, none⟩ = some (.slice gA gl gcap) ∧ w'.cell? ⟨D, 9, none⟩ = some (.slice hA hl hcap)) (by kernel_rfl) ?_ (fun hHeld => ?_)
            · exact ⟨bN, HXC.out _ bN, HXD.out _ bN⟩
            refine wpAnyH_ready (rs := [0]) (by kernel_rfl) (by simp) ?_
            refine AllReadyH.cons (i := 0) rfl (fun K hK => ?_) AllReadyH.nil
            go_simp
            refine (HAW.out _ (BY.out.trans ((HUP.out _ bN).mono BY.out.size))).mono ?_
            rintro e wv0 ⟨rfl, bC⟩
            have bN := bN.trans (bC.mono bN.size)
            clear bC
            go_wp2_with fail
            refine hK.out _ _ ?_ (fun hHeld => ?_)
            · exact ⟨bN, HXC.out _ bN, HXD.out _ bN⟩
            clear hK K
            try simp only [Act.put, List.setIfInBounds_toArray, List.set_cons_zero, List.set_cons_succ]
            refine take_w 1 (some 77) ?v2 rfl rfl (by kernel_rfl) (by kernel_rfl) (by kernel_rfl) (by rfl) ?y2 (fun _ _ _ h => h) (by assumption) ?n2
            case y2 =>
              intro w hSw
              try dsimp only at hSw
              go_simp
              try with_reducible rfl
            try simp only [Act.put, List.setIfInBounds_toArray, List.set_cons_zero, List.set_cons_succ]
            refine take_w 2 (some 78) ?v3 rfl rfl (by kernel_rfl) (by kernel_rfl) (by kernel_rfl) (by rfl) ?y3 (fun _ _ _ h => h) (by assumption) ?n3
            case y3 =>
              intro w hSw
              try dsimp only at hSw
              go_simp
              try with_reducible rfl
            try simp only [Act.put, List.setIfInBounds_toArray, List.set_cons_zero, List.set_cons_succ]
            refine take_w 3 (some 79) ?v4 rfl rfl (by kernel_rfl) (by kernel_rfl) (by kernel_rfl) (by rfl) ?y4 (fun _ _ _ h => h) (by assumption) ?n4
            case y4 =>
              intro w hSw
              try dsimp only at hSw
              go_simp
              try with_reducible rfl
            try simp only [Act.put, List.setIfInBounds_toArray, List.set_cons_zero, List.set_cons_succ]
            refine take_w 4 (some 80) ?v5 rfl rfl (by kernel_rfl) (by kernel_rfl) (by kernel_rfl) (by rfl) ?y5 (fun _ _ _ h => h) (by assumption) ?n5
            case y5 =>
              intro w hSw
              try dsimp only at hSw
              go_simp
              try with_reducible rfl
            try simp only [Act.put, List.setIfInBounds_toArray, List.set_cons_zero, List.set_cons_succ]
            refine take_w 5 (some 81) ?v6 rfl rfl (by kernel_rfl) (by kernel_rfl) (by kernel_rfl) (by rfl) ?y6 (fun _ _ _ h => h) (by assumption) ?n6
            case y6 =>
              intro w hSw
              try dsimp only at hSw
              go_simp
              try with_reducible rfl
            try simp only [Act.put, List.setIfInBounds_toArray, List.set_cons_zero, List.set_cons_succ]
            refine take_w 6 (some 82) ?v7 rfl rfl (by kernel_rfl) (by kernel_rfl) (by kernel_rfl) (by rfl) ?y7 (fun _ _ _ h => h) (by assumption) ?n7
            case y7 =>
              intro w hSw
              try dsimp only at hSw
              go_simp
              try with_reducible rfl
            try simp only [Act.put, List.setIfInBounds_toArray, List.set_cons_zero, List.set_cons_succ]
            refine take_w 7 (some 83) ?v8 rfl rfl (by kernel_rfl) (by kernel_rfl) (by kernel_rfl) (by rfl) ?y8 (fun _ _ _ h => h) (by assumption) ?n8
            case y8 =>
              intro w hSw
              try dsimp only at hSw
              go_simp
              try with_reducible rfl
            try simp only [Act.put, List.setIfInBounds_toArray, List.set_cons_zero, List.set_cons_succ]
            refine take_w 8 (some 84) ?v9 rfl rfl (by kernel_rfl) (by kernel_rfl) (by kernel_rfl) (by rfl) ?y9 (fun _ _ _ h => h) (by assumption) ?n9
            case y9 =>
              intro w hSw
              try dsimp only at hSw
              go_simp
              try with_reducible rfl
            try simp only [Act.put, List.setIfInBounds_toArray, List.set_cons_zero, List.set_cons_succ]
            refine wpAnyH_ready (rs := [9]) (by kernel_rfl) (by simp) ?_
            refine AllReadyH.cons (i := 9) rfl (fun K hK => ?_) AllReadyH.nil
            go_simp
            refine (HGR.out _ (HUP.out _ bN)).mono ?_
            rintro e wv1 ⟨⟨u, rfl, ou⟩, bC⟩
            have bN := bN.trans (bC.mono bN.size)
            have RU := Lib.hid ou.reads
            obtain ⟨uA, un, ucap, rfl⟩ : ∃ A n cap, u = .slice A n cap := by obtain ⟨A, cap, e⟩ := ou.slice; exact ⟨A, _, cap, e⟩
            clear bC ou
            go_wp2_with fail
            refine hK.out _ _ ?_ (fun hHeld => ?_)
            · exact ⟨bN, HXC.out _ bN, HXD.out _ bN⟩
            clear hK K
            try simp only [Act.put, List.setIfInBounds_toArray, List.set_cons_zero, List.set_cons_succ]
            refine wpAnyH_ready (rs := [10]) (by kernel_rfl) (by simp) ?_
            refine AllReadyH.cons (i := 10) rfl (fun K hK => ?_) AllReadyH.nil
            go_simp
            have HPL := Lib.hid (plainT_any wv1.heap.size (.slice gA gl gcap) (.slice uA un ucap) (sts GL) (sts GL) wv1 (RG7.out.upon bN) RU.out HGS.out HGS.out)
            rw [decide_eq_true rfl] at HPL
            refine HPL.out.mono ?_
            rintro e wv2 ⟨rfl, bC⟩
            have bN := bN.trans (bC.mono bN.size)
            clear bC
            go_wp2_with fail
            refine hK.out _ _ ?_ (fun hHeld => ?_)
            · exact ⟨bN, HXC.out _ bN, HXD.out _ bN⟩
            clear hK K
            try simp only [Act.put, List.setIfInBounds_toArray, List.set_cons_zero, List.set_cons_succ]
            refine take_w 11 (some 87) ?v12 rfl rfl (by kernel_rfl) (by kernel_rfl) (by kernel_rfl) (by rfl) ?y12 (fun _ _ _ h => h) (by assumption) ?n12
            case y12 =>
              intro w hSw
              try dsimp only at hSw
              go_simp
              try with_reducible rfl
            try simp only [Act.put, List.setIfInBounds_toArray, List.set_cons_zero, List.set_cons_succ]
            refine take_w 12 (some 88) ?v13 rfl rfl (by kernel_rfl) (by kernel_rfl) (by kernel_rfl) (by rfl) ?y13 (fun _ _ _ h => h) (by assumption) ?n13
            case y13 =>
              intro w hSw
              try dsimp only at hSw
              go_simp
              try with_reducible rfl
            try simp only [Act.put, List.setIfInBounds_toArray, List.set_cons_zero, List.set_cons_succ]
            refine take_w 13 (some 89) ?v14 rfl rfl (by kernel_rfl) (by kernel_rfl) (by kernel_rfl) (by rfl) ?y14 (fun _ _ _ h => h) (by assumption) ?n14
            case y14 =>
              intro w hSw
              try dsimp only at hSw
              go_simp
              try with_reducible rfl
            try simp only [Act.put, List.setIfInBounds_toArray, List.set_cons_zero, List.set_cons_succ]
            refine take_w 14 (some 90) ?v15 rfl rfl (by kernel_rfl) (by kernel_rfl) (by kernel_rfl) (by rfl) ?y15 (fun _ _ _ h => h) (by assumption) ?n15
            case y15 =>
              intro w hSw
              try dsimp only at hSw
              go_simp
              try with_reducible rfl
            try simp only [Act.put, List.setIfInBounds_toArray, List.set_cons_zero, List.set_cons_succ]
            refine take_w 15 (some 91) ?v16 rfl rfl (by kernel_rfl) (by kernel_rfl) (by kernel_rfl) (by rfl) ?y16 (fun _ _ _ h => h) (by assumption) ?n16
            case y16 =>
              intro w hSw
              try dsimp only at hSw
              go_simp
              try with_reducible rfl
            try simp only [Act.put, List.setIfInBounds_toArray, List.set_cons_zero, List.set_cons_succ]
            refine take_w 16 (some 92) ?v17 rfl rfl (by kernel_rfl) (by kernel_rfl) (by kernel_rfl) (by rfl) ?y17 (fun _ _ _ h => h) (by assumption) ?n17
            case y17 =>
              intro w hSw
              try dsimp only at hSw
              go_simp
              try with_reducible rfl
            try simp only [Act.put, List.setIfInBounds_toArray, List.set_cons_zero, List.set_cons_succ]
            refine take_w 17 (some 93) ?v18 rfl rfl (by kernel_rfl) (by kernel_rfl) (by kernel_rfl) (by rfl) ?y18 (fun _ _ _ h => h) (by assumption) ?n18
            case y18 =>
              intro w hSw
              try dsimp only at hSw
              go_simp
              try with_reducible rfl
            try simp only [Act.put, List.setIfInBounds_toArray, List.set_cons_zero, List.set_cons_succ]
            refine take_w 18 (some 94) ?v19 rfl rfl (by kernel_rfl) (by kernel_rfl) (by kernel_rfl) (by rfl) ?y19 (fun _ _ _ h => h) (by assumption) ?n19
            case y19 =>
              intro w hSw
              try dsimp only at hSw
              go_simp
              try with_reducible rfl
            try simp only [Act.put, List.setIfInBounds_toArray, List.set_cons_zero, List.set_cons_succ]
            refine take_w 19 (some 95) ?v20 rfl rfl (by kernel_rfl) (by kernel_rfl) (by kernel_rfl) (by rfl) ?y20 (fun _ _ _ h => h) (by assumption) ?n20
            case y20 =>
              intro w hSw
              try dsimp only at hSw
              go_simp
              try with_reducible rfl
            try simp only [Act.put, List.setIfInBounds_toArray, List.set_cons_zero, List.set_cons_succ]
            refine take_w 20 (some 96) ?v21 rfl rfl (by kernel_rfl) (by kernel_rfl) (by kernel_rfl) (by rfl) ?y21 (fun _ _ _ h => h) (by assumption) ?n21
            case y21 =>
              intro w hSw
              try dsimp only at hSw
              go_simp
              try with_reducible rfl
            try simp only [Act.put, List.setIfInBounds_toArray, List.set_cons_zero, List.set_cons_succ]
            refine take_w 21 (some 97) ?v22 rfl rfl (by kernel_rfl) (by kernel_rfl) (by kernel_rfl) (by rfl) ?y22 (fun _ _ _ h => h) (by assumption) ?n22
            case y22 =>
              intro w hSw
              try dsimp only at hSw
              go_simp
              try with_reducible rfl
            try simp only [Act.put, List.setIfInBounds_toArray, List.set_cons_zero, List.set_cons_succ]
            refine take_w 22 (some 98) ?v23 rfl rfl (by kernel_rfl) (by kernel_rfl) (by kernel_rfl) (by rfl) ?y23 (fun _ _ _ h => h) (by assumption) ?n23
            case y23 =>
              intro w hSw
              try dsimp only at hSw
              go_simp
              try with_reducible rfl
            try simp only [Act.put, List.setIfInBounds_toArray, List.set_cons_zero, List.set_cons_succ]
            refine take_w 23 (some 99) ?v24 rfl rfl (by kernel_rfl) (by kernel_rfl) (by kernel_rfl) (by rfl) ?y24 (fun _ _ _ h => h) (by assumption) ?n24
            case y24 =>
              intro w hSw
              try dsimp only at hSw
              go_simp
              try with_reducible rfl
            try simp only [Act.put, List.setIfInBounds_toArray, List.set_cons_zero, List.set_cons_succ]
            refine take_w 24 (some 100) ?v25 rfl rfl (by kernel_rfl) (by kernel_rfl) (by kernel_rfl) (by rfl) ?y25 (fun _ _ _ h => h) (by assumption) ?n25
            case y25 =>
              intro w hSw
              try dsimp only at hSw
              go_simp
              try with_reducible rfl
            try simp only [Act.put, List.setIfInBounds_toArray, List.set_cons_zero, List.set_cons_succ]
            refine take_w 25 (some 101) ?v26 rfl rfl (by kernel_rfl) (by kernel_rfl) (by kernel_rfl) (by rfl) ?y26 (fun _ _ _ h => h) (by assumption) ?n26
            case y26 =>
              intro w hSw
              try dsimp only at hSw
              go_simp
              try with_reducible rfl
            try simp only [Act.put, List.setIfInBounds_toArray, List.set_cons_zero, List.set_cons_succ]
            refine take_w 26 (some 102) ?v27 rfl rfl (by kernel_rfl) (by kernel_rfl) (by kernel_rfl) (by rfl) ?y27 (fun _ _ _ h => h) (by assumption) ?n27
            case y27 =>
              intro w hSw
              try dsimp only at hSw
              go_simp
              try with_reducible rfl
            try simp only [Act.put, List.setIfInBounds_toArray, List.set_cons_zero, List.set_cons_succ]
            refine take_u 27 (some 103) rfl rfl (by kernel_rfl) (by kernel_rfl) (by kernel_rfl) (by rfl) (fun _ _ _ h => h) (by assumption) ?n28
            try simp only [Act.put, List.setIfInBounds_toArray, List.set_cons_zero, List.set_cons_succ]
            refine take_u 28 (some 104) rfl rfl (by kernel_rfl) (by kernel_rfl) (by kernel_rfl) (by rfl) (fun _ _ _ h => h) (by assumption) ?n29
            try simp only [Act.put, List.setIfInBounds_toArray, List.set_cons_zero, List.set_cons_succ]
            refine take_u 29 (some 105) rfl rfl (by kernel_rfl) (by kernel_rfl) (by kernel_rfl) (by rfl) (fun _ _ _ h => h) (by assumption) ?n30
            try simp only [Act.put, List.setIfInBounds_toArray, List.set_cons_zero, List.set_cons_succ]
            refine take_u 30 (some 106) rfl rfl (by kernel_rfl) (by kernel_rfl) (by kernel_rfl) (by rfl) (fun _ _ _ h => h) (by assumption) ?n31
            try simp only [Act.put, List.setIfInBounds_toArray, List.set_cons_zero, List.set_cons_succ]
            refine take_u 31 (some 107) rfl rfl (by kernel_rfl) (by kernel_rfl) (by kernel_rfl) (by rfl) (fun _ _ _ h => h) (by assumption) ?n32
            try simp only [Act.put, List.setIfInBounds_toArray, List.set_cons_zero, List.set_cons_succ]
            refine take_u 32 (some 108) rfl rfl (by kernel_rfl) (by kernel_rfl) (by kernel_rfl) (by rfl) (fun _ _ _ h => h) (by assumption) ?n33
            try simp only [Act.put, List.setIfInBounds_toArray, List.set_cons_zero, List.set_cons_succ]
            refine take_w 33 (some 109) ?v34 rfl rfl (by kernel_rfl) (by kernel_rfl) (by kernel_rfl) (by rfl) ?y34 (fun _ _ _ h => h) (by assumption) ?n34
            case y34 =>
              intro w hSw
              try dsimp only at hSw
              go_simp
              try with_reducible rfl
            try simp only [Act.put, List.setIfInBounds_toArray, List.set_cons_zero, List.set_cons_succ]
            refine take_w 34 (some 110) ?v35 rfl rfl (by kernel_rfl) (by kernel_rfl) (by kernel_rfl) (by rfl) ?y35 (fun _ _ _ h => h) (by assumption) ?n35
            case y35 =>
              intro w hSw
              try dsimp only at hSw
              go_simp
              try with_reducible rfl
            try simp only [Act.put, List.setIfInBounds_toArray, List.set_cons_zero, List.set_cons_succ]
            refine take_w 35 (some 4) ?v36 rfl rfl (by kernel_rfl) (by kernel_rfl) (by kernel_rfl) (by rfl) ?y36 (fun _ _ _ h => h) (by assumption) ?n36
            case y36 =>
              intro w hSw
              try dsimp only at hSw
              go_simp
              try with_reducible rfl
            try simp only [Act.put, List.setIfInBounds_toArray, List.set_cons_zero, List.set_cons_succ]
            refine wpAnyH_done (by kernel_rfl) ?_ _
            go_wp2_with fail
            go_ret
            exact ⟨rfl, BY.out.trans ((HUP.out _ bN).mono BY.out.size)⟩
          · have hle2 := HLE.out
            rw [if_neg hm2] at hle2
            have hof2 := of_lit (l := [(nFN, [110]), (nCAT, TL)]) (HO.out w4 (BY.out.trans (B4.out.mono BY.out.size))) hW5.symm 2 HCO.out hle2
            have hd8 : ¬ (k : Int) ≤ 8 := by omega
            have hd8b : decide ((k : Int) ≤ 8) = false := decide_eq_false hd8
            have hd9 : (k : Int) > 8 := by omega
            have hd9b : decide ((k : Int) > 8) = true := decide_eq_true hd9
            have HOF2 := Lib.hid hof2
            obtain ⟨P, hP⟩ : ∃ P, w4.heap.size = P := ⟨_, rfl⟩
            have HPP := Lib.hid hP
            rw [hP] at HOF2
            obtain ⟨T, hT⟩ : ∃ T, bts TL = T := ⟨_, rfl⟩
            rw [hT] at hW5 ⊢
            clear hof2 hle2 hT
            go_wp2_with fail
            refine HOF2.out.mono ?_
            rintro e w6 ⟨⟨g, o, rfl, rg, ro⟩, b6⟩
            rw [← HPP.out] at b6
            obtain ⟨hA, hl, hcap, rfl⟩ : ∃ A n cap, g = .slice A n cap := by obtain ⟨A, cap, e, _⟩ := rg; exact ⟨A, _, cap, e⟩
            obtain ⟨pA, pl, pcap, rfl⟩ : ∃ A n cap, o = .slice A n cap := by obtain ⟨A, cap, e, _⟩ := ro; exact ⟨A, _, cap, e⟩
            have B6 : Hid (Below w4.heap.size w4 w6) := b6
            have hag : agC noneC (.slice hA hl hcap) (.slice pA pl pcap) = .agg #[.string ⟨#[]⟩, .string ⟨#[]⟩, .string ⟨#[]⟩, .string ⟨#[]⟩, .string ⟨#[]⟩, .string ⟨#[]⟩, .string ⟨#[]⟩, .string ⟨#[]⟩, .string ⟨#[]⟩, .slice hA hl hcap, .slice pA pl pcap] := rfl
            rw [hag]
            obtain ⟨W7, hW7⟩ : ∃ W, w6.alloc (.cells #[.string ⟨#[]⟩, .string ⟨#[]⟩, .string ⟨#[]⟩, .string ⟨#[]⟩, .string ⟨#[]⟩, .string ⟨#[]⟩, .string ⟨#[]⟩, .string ⟨#[]⟩, .string ⟨#[]⟩, .slice hA hl hcap, .slice pA pl pcap] 25) = W := ⟨_, rfl⟩
            obtain ⟨D, hD⟩ : ∃ g, w6.heap.size = g := ⟨_, rfl⟩
            have K7 : Hid (Bk W7 D 25 #[.string ⟨#[]⟩, .string ⟨#[]⟩, .string ⟨#[]⟩, .string ⟨#[]⟩, .string ⟨#[]⟩, .string ⟨#[]⟩, .string ⟨#[]⟩, .string ⟨#[]⟩, .string ⟨#[]⟩, .slice hA hl hcap, .slice pA pl pcap]) := by rw [← hW7, ← hD]; exact Bk.new _ _ _
            have b7 : Below w6.heap.size w6 W7 := by rw [← hW7]; exact (Below.refl _ _).alloc (Nat.le_refl _) _
            have b47 : Below w4.heap.size w4 W7 := B6.out.trans (b7.mono B6.out.size)
            have C7 : Hid (Bk W7 C 25 #[.string ⟨#[110]⟩, .string ⟨#[]⟩, .string ⟨#[]⟩, .string ⟨#[]⟩, .string ⟨#[]⟩, .string ⟨#[]⟩, .string ⟨#[]⟩, .string ⟨#[]⟩, .string ⟨#[]⟩, .slice gA gl gcap, .slice oA ol ocap]) := K4.out.below b47 K4.out.lt
            have RG7 := Lib.hid (RG4.out.upon b47)
            have HUP : Hid (∀ V, Below W7.heap.size W7 V → Below w1.heap.size w1 V) := fun V h => (B4.out.trans (b47.mono B4.out.size)).trans (h.mono (B4.out.trans (b47.mono B4.out.size)).size)
            have HW7 := Lib.hid hW7
            have HD := Lib.hid hD
            clear b6 rg ro hag hW7 hD b7 b47 hW5 hP HOF2
            go_upto_region 18 with fail
            (try rw [HW7.out])
            (try rw [HD.out])
            have HXC : Hid (∀ W, Below W7.heap.size W7 W → W.cell? ⟨C, 9, none⟩ = some (.slice gA gl gcap)) := fun W h => (C7.out.below h C7.out.lt).cell 9
            have HXD : Hid (∀ W, Below W7.heap.size W7 W → W.cell? ⟨D, 9, none⟩ = some (.slice hA hl hcap)) := fun W h => (K7.out.below h K7.out.lt).cell 9
            have h0 : ((0 : Int) == 0) = true := rfl
            have h12 : ((12 : Int) == 12) = true := rfl
            have hkk : ((k : Int) == (k : Int)) = true := by simp
            have bN : Below W7.heap.size W7 W7.drew := (Below.refl _ _).drew
            refine wp_region_held_drew (S := fun w' => Below W7.heap.size W7 w' ∧ w'.cell? ⟨C, 9, none⟩ = some (.slice gA gl gcap) ∧ w'.cell? ⟨D, 9, none⟩ = some (.slice hA hl hcap)) (by kernel_rfl) ?_ (fun hHeld => ?_)
            · exact ⟨bN, HXC.out _ bN, HXD.out _ bN⟩
            refine wpAnyH_ready (rs := [0]) (by kernel_rfl) (by simp) ?_
            refine AllReadyH.cons (i := 0) rfl (fun K hK => ?_) AllReadyH.nil
            go_simp
            refine (HAW.out _ (BY.out.trans ((HUP.out _ bN).mono BY.out.size))).mono ?_
            rintro e wv0 ⟨rfl, bC⟩
            have bN := bN.trans (bC.mono bN.size)
            clear bC
            go_wp2_with fail
            refine hK.out _ _ ?_ (fun hHeld => ?_)
            · exact ⟨bN, HXC.out _ bN, HXD.out _ bN⟩
            clear hK K
            try simp only [Act.put, List.setIfInBounds_toArray, List.set_cons_zero, List.set_cons_succ]
            refine take_w 1 (some 77) ?v38 rfl rfl (by kernel_rfl) (by kernel_rfl) (by kernel_rfl) (by rfl) ?y38 (fun _ _ _ h => h) (by assumption) ?n38
            case y38 =>
              intro w hSw
              try dsimp only at hSw
              go_simp
              try with_reducible rfl
            try simp only [Act.put, List.setIfInBounds_toArray, List.set_cons_zero, List.set_cons_succ]
            refine take_w 2 (some 78) ?v39 rfl rfl (by kernel_rfl) (by kernel_rfl) (by kernel_rfl) (by rfl) ?y39 (fun _ _ _ h => h) (by assumption) ?n39
            case y39 =>
              intro w hSw
              try dsimp only at hSw
              go_simp
              try with_reducible rfl
            try simp only [Act.put, List.setIfInBounds_toArray, List.set_cons_zero, List.set_cons_succ]
            refine take_w 3 (some 79) ?v40 rfl rfl (by kernel_rfl) (by kernel_rfl) (by kernel_rfl) (by rfl) ?y40 (fun _ _ _ h => h) (by assumption) ?n40
            case y40 =>
              intro w hSw
              try dsimp only at hSw
              go_simp
              try with_reducible rfl
            try simp only [Act.put, List.setIfInBounds_toArray, List.set_cons_zero, List.set_cons_succ]
            refine take_w 4 (some 80) ?v41 rfl rfl (by kernel_rfl) (by kernel_rfl) (by kernel_rfl) (by rfl) ?y41 (fun _ _ _ h => h) (by assumption) ?n41
            case y41 =>
              intro w hSw
              try dsimp only at hSw
              go_simp
              try with_reducible rfl
            try simp only [Act.put, List.setIfInBounds_toArray, List.set_cons_zero, List.set_cons_succ]
            refine take_w 5 (some 81) ?v42 rfl rfl (by kernel_rfl) (by kernel_rfl) (by kernel_rfl) (by rfl) ?y42 (fun _ _ _ h => h) (by assumption) ?n42
            case y42 =>
              intro w hSw
              try dsimp only at hSw
              go_simp
              try with_reducible rfl
            try simp only [Act.put, List.setIfInBounds_toArray, List.set_cons_zero, List.set_cons_succ]
            refine take_w 6 (some 82) ?v43 rfl rfl (by kernel_rfl) (by kernel_rfl) (by kernel_rfl) (by rfl) ?y43 (fun _ _ _ h => h) (by assumption) ?n43
            case y43 =>
              intro w hSw
              try dsimp only at hSw
              go_simp
              try with_reducible rfl
            try simp only [Act.put, List.setIfInBounds_toArray, List.set_cons_zero, List.set_cons_succ]
            refine take_w 7 (some 83) ?v44 rfl rfl (by kernel_rfl) (by kernel_rfl) (by kernel_rfl) (by rfl) ?y44 (fun _ _ _ h => h) (by assumption) ?n44
            case y44 =>
              intro w hSw
              try dsimp only at hSw
              go_simp
              try with_reducible rfl
            try simp only [Act.put, List.setIfInBounds_toArray, List.set_cons_zero, List.set_cons_succ]
            refine take_w 8 (some 84) ?v45 rfl rfl (by kernel_rfl) (by kernel_rfl) (by kernel_rfl) (by rfl) ?y45 (fun _ _ _ h => h) (by assumption) ?n45
            case y45 =>
              intro w hSw
              try dsimp only at hSw
              go_simp
              try with_reducible rfl
            try simp only [Act.put, List.setIfInBounds_toArray, List.set_cons_zero, List.set_cons_succ]
            refine wpAnyH_ready (rs := [9]) (by kernel_rfl) (by simp) ?_
            refine AllReadyH.cons (i := 9) rfl (fun K hK => ?_) AllReadyH.nil
            go_simp
            refine (HGR.out _ (HUP.out _ bN)).mono ?_
            rintro e wv1 ⟨⟨u, rfl, ou⟩, bC⟩
            have bN := bN.trans (bC.mono bN.size)
            have RU := Lib.hid ou.reads
            obtain ⟨uA, un, ucap, rfl⟩ : ∃ A n cap, u = .slice A n cap := by obtain ⟨A, cap, e⟩ := ou.slice; exact ⟨A, _, cap, e⟩
            clear bC ou
            go_wp2_with fail
            refine hK.out _ _ ?_ (fun hHeld => ?_)
            · exact ⟨bN, HXC.out _ bN, HXD.out _ bN⟩
            clear hK K
            try simp only [Act.put, List.setIfInBounds_toArray, List.set_cons_zero, List.set_cons_succ]
            refine wpAnyH_ready (rs := [10]) (by kernel_rfl) (by simp) ?_
            refine AllReadyH.cons (i := 10) rfl (fun K hK => ?_) AllReadyH.nil
            go_simp
            have HPL := Lib.hid (plainT_any wv1.heap.size (.slice gA gl gcap) (.slice uA un ucap) (sts GL) (sts GL) wv1 (RG7.out.upon bN) RU.out HGS.out HGS.out)
            rw [decide_eq_true rfl] at HPL
            refine HPL.out.mono ?_
            rintro e wv2 ⟨rfl, bC⟩
            have bN := bN.trans (bC.mono bN.size)
            clear bC
            go_wp2_with fail
            refine hK.out _ _ ?_ (fun hHeld => ?_)
            · exact ⟨bN, HXC.out _ bN, HXD.out _ bN⟩
            clear hK K
            try simp only [Act.put, List.setIfInBounds_toArray, List.set_cons_zero, List.set_cons_succ]
            refine take_w 11 (some 87) ?v48 rfl rfl (by kernel_rfl) (by kernel_rfl) (by kernel_rfl) (by rfl) ?y48 (fun _ _ _ h => h) (by assumption) ?n48
            case y48 =>
              intro w hSw
              try dsimp only at hSw
              go_simp
              try with_reducible rfl
            try simp only [Act.put, List.setIfInBounds_toArray, List.set_cons_zero, List.set_cons_succ]
            refine take_w 12 (some 88) ?v49 rfl rfl (by kernel_rfl) (by kernel_rfl) (by kernel_rfl) (by rfl) ?y49 (fun _ _ _ h => h) (by assumption) ?n49
            case y49 =>
              intro w hSw
              try dsimp only at hSw
              go_simp
              try with_reducible rfl
            try simp only [Act.put, List.setIfInBounds_toArray, List.set_cons_zero, List.set_cons_succ]
            refine take_w 13 (some 89) ?v50 rfl rfl (by kernel_rfl) (by kernel_rfl) (by kernel_rfl) (by rfl) ?y50 (fun _ _ _ h => h) (by assumption) ?n50
            case y50 =>
              intro w hSw
              try dsimp only at hSw
              go_simp
              try with_reducible rfl
            try simp only [Act.put, List.setIfInBounds_toArray, List.set_cons_zero, List.set_cons_succ]
            refine take_w 14 (some 90) ?v51 rfl rfl (by kernel_rfl) (by kernel_rfl) (by kernel_rfl) (by rfl) ?y51 (fun _ _ _ h => h) (by assumption) ?n51
            case y51 =>
              intro w hSw
              try dsimp only at hSw
              go_simp
              try with_reducible rfl
            try simp only [Act.put, List.setIfInBounds_toArray, List.set_cons_zero, List.set_cons_succ]
            refine take_w 15 (some 91) ?v52 rfl rfl (by kernel_rfl) (by kernel_rfl) (by kernel_rfl) (by rfl) ?y52 (fun _ _ _ h => h) (by assumption) ?n52
            case y52 =>
              intro w hSw
              try dsimp only at hSw
              go_simp
              try with_reducible rfl
            try simp only [Act.put, List.setIfInBounds_toArray, List.set_cons_zero, List.set_cons_succ]
            refine take_u 16 (some 92) rfl rfl (by kernel_rfl) (by kernel_rfl) (by kernel_rfl) (by rfl) (fun _ _ _ h => h) (by assumption) ?n53
            try simp only [Act.put, List.setIfInBounds_toArray, List.set_cons_zero, List.set_cons_succ]
            refine take_u 17 (some 93) rfl rfl (by kernel_rfl) (by kernel_rfl) (by kernel_rfl) (by rfl) (fun _ _ _ h => h) (by assumption) ?n54
            try simp only [Act.put, List.setIfInBounds_toArray, List.set_cons_zero, List.set_cons_succ]
            refine take_w 18 (some 94) ?v55 rfl rfl (by kernel_rfl) (by kernel_rfl) (by kernel_rfl) (by rfl) ?y55 (fun _ _ _ h => h) (by assumption) ?n55
            case y55 =>
              intro w hSw
              try dsimp only at hSw
              go_simp
              try with_reducible rfl
            try simp only [Act.put, List.setIfInBounds_toArray, List.set_cons_zero, List.set_cons_succ]
            refine take_w 19 (some 95) ?v56 rfl rfl (by kernel_rfl) (by kernel_rfl) (by kernel_rfl) (by rfl) ?y56 (fun _ _ _ h => h) (by assumption) ?n56
            case y56 =>
              intro w hSw
              try dsimp only at hSw
              go_simp
              try with_reducible rfl
            try simp only [Act.put, List.setIfInBounds_toArray, List.set_cons_zero, List.set_cons_succ]
            refine take_u 20 (some 96) rfl rfl (by kernel_rfl) (by kernel_rfl) (by kernel_rfl) (by rfl) (fun _ _ _ h => h) (by assumption) ?n57
            try simp only [Act.put, List.setIfInBounds_toArray, List.set_cons_zero, List.set_cons_succ]
            refine take_u 21 (some 97) rfl rfl (by kernel_rfl) (by kernel_rfl) (by kernel_rfl) (by rfl) (fun _ _ _ h => h) (by assumption) ?n58
            try simp only [Act.put, List.setIfInBounds_toArray, List.set_cons_zero, List.set_cons_succ]
            refine take_u 22 (some 98) rfl rfl (by kernel_rfl) (by kernel_rfl) (by kernel_rfl) (by rfl) (fun _ _ _ h => h) (by assumption) ?n59
            try simp only [Act.put, List.setIfInBounds_toArray, List.set_cons_zero, List.set_cons_succ]
            refine take_u 23 (some 99) rfl rfl (by kernel_rfl) (by kernel_rfl) (by kernel_rfl) (by rfl) (fun _ _ _ h => h) (by assumption) ?n60
            try simp only [Act.put, List.setIfInBounds_toArray, List.set_cons_zero, List.set_cons_succ]
            refine take_u 24 (some 100) rfl rfl (by kernel_rfl) (by kernel_rfl) (by kernel_rfl) (by rfl) (fun _ _ _ h => h) (by assumption) ?n61
            try simp only [Act.put, List.setIfInBounds_toArray, List.set_cons_zero, List.set_cons_succ]
            refine take_w 25 (some 101) ?v62 rfl rfl (by kernel_rfl) (by kernel_rfl) (by kernel_rfl) (by rfl) ?y62 (fun _ _ _ h => h) (by assumption) ?n62
            case y62 =>
              intro w hSw
              try dsimp only at hSw
              go_simp
              try with_reducible rfl
            try simp only [Act.put, List.setIfInBounds_toArray, List.set_cons_zero, List.set_cons_succ]
            refine take_w 26 (some 102) ?v63 rfl rfl (by kernel_rfl) (by kernel_rfl) (by kernel_rfl) (by rfl) ?y63 (fun _ _ _ h => h) (by assumption) ?n63
            case y63 =>
              intro w hSw
              try dsimp only at hSw
              go_simp
              try with_reducible rfl
            try simp only [Act.put, List.setIfInBounds_toArray, List.set_cons_zero, List.set_cons_succ]
            refine take_w 27 (some 103) ?v64 rfl rfl (by kernel_rfl) (by kernel_rfl) (by kernel_rfl) (by rfl) ?y64 (fun _ _ _ h => h) (by assumption) ?n64
            case y64 =>
              intro w hSw
              try dsimp only at hSw
              go_simp
              try with_reducible rfl
            try simp only [Act.put, List.setIfInBounds_toArray, List.set_cons_zero, List.set_cons_succ]
            refine take_w 28 (some 104) ?v65 rfl rfl (by kernel_rfl) (by kernel_rfl) (by kernel_rfl) (by rfl) ?y65 (fun _ _ _ h => h) (by assumption) ?n65
            case y65 =>
              intro w hSw
              try dsimp only at hSw
              go_simp
              try with_reducible rfl
            try simp only [Act.put, List.setIfInBounds_toArray, List.set_cons_zero, List.set_cons_succ]
            refine take_w 29 (some 105) ?v66 rfl rfl (by kernel_rfl) (by kernel_rfl) (by kernel_rfl) (by rfl) ?y66 (fun _ _ _ h => h) (by assumption) ?n66
            case y66 =>
              intro w hSw
              try dsimp only at hSw
              go_simp
              try with_reducible rfl
            try simp only [Act.put, List.setIfInBounds_toArray, List.set_cons_zero, List.set_cons_succ]
            refine take_w 30 (some 106) ?v67 rfl rfl (by kernel_rfl) (by kernel_rfl) (by kernel_rfl) (by rfl) ?y67 (fun _ _ _ h => h) (by assumption) ?n67
            case y67 =>
              intro w hSw
              try dsimp only at hSw
              go_simp
              try with_reducible rfl
            try simp only [Act.put, List.setIfInBounds_toArray, List.set_cons_zero, List.set_cons_succ]
            refine take_w 31 (some 107) ?v68 rfl rfl (by kernel_rfl) (by kernel_rfl) (by kernel_rfl) (by rfl) ?y68 (fun _ _ _ h => h) (by assumption) ?n68
            case y68 =>
              intro w hSw
              try dsimp only at hSw
              go_simp
              try with_reducible rfl
            try simp only [Act.put, List.setIfInBounds_toArray, List.set_cons_zero, List.set_cons_succ]
            refine take_w 32 (some 108) ?v69 rfl rfl (by kernel_rfl) (by kernel_rfl) (by kernel_rfl) (by rfl) ?y69 (fun _ _ _ h => h) (by assumption) ?n69
            case y69 =>
              intro w hSw
              try dsimp only at hSw
              go_simp
              try with_reducible rfl
            try simp only [Act.put, List.setIfInBounds_toArray, List.set_cons_zero, List.set_cons_succ]
            refine take_w 33 (some 109) ?v70 rfl rfl (by kernel_rfl) (by kernel_rfl) (by kernel_rfl) (by rfl) ?y70 (fun _ _ _ h => h) (by assumption) ?n70
            case y70 =>
              intro w hSw
              try dsimp only at hSw
              go_simp
              try with_reducible rfl
            try simp only [Act.put, List.setIfInBounds_toArray, List.set_cons_zero, List.set_cons_succ]
            refine take_w 34 (some 110) ?v71 rfl rfl (by kernel_rfl) (by kernel_rfl) (by kernel_rfl) (by rfl) ?y71 (fun _ _ _ h => h) (by assumption) ?n71
            case y71 =>
              intro w hSw
              try dsimp only at hSw
              go_simp
              try with_reducible rfl
            try simp only [Act.put, List.setIfInBounds_toArray, List.set_cons_zero, List.set_cons_succ]
            refine take_w 35 (some 4) ?v72 rfl rfl (by kernel_rfl) (by kernel_rfl) (by kernel_rfl) (by rfl) ?y72 (fun _ _ _ h => h) (by assumption) ?n72
            case y72 =>
              intro w hSw
              try dsimp only at hSw
              go_simp
              try with_reducible rfl
            try simp only [Act.put, List.setIfInBounds_toArray, List.set_cons_zero, List.set_cons_succ]
            refine wpAnyH_done (by kernel_rfl) ?_ _
            go_wp2_with fail
            go_ret
            exact ⟨rfl, BY.out.trans ((HUP.out _ bN).mono BY.out.size)⟩
end Go.Proofs.YtfbdnaclkfmiaaaGreatDoor
