/-
  The law CanonForms: a root and its kids, each in a namespace or none, each with a text or none.
-/
import Derived.Test.YtbkfmbkamocllaaDoorCnP
import Derived.Test.YtbkfmbkamocllaaDoorCnH
import Derived.Test.YtbkfmbkamocllaaDoorRefEsc
import Derived.Test.YtbkfmbkamocllaaDoorReadD
import Derived.Test.YtbkfmbkamocllaaDoorUint
import Derived.Test.YtbkfmbkamocllaaDoorHolds
namespace Go.Proofs.YtbkfmbkamocllaaDoor
open Go.RowKit Tk Tr Cn

theorem forms_cat (a b : List UInt8) : (bts a ++ bts b : ByteArray) = bts (a ++ b) := by
  apply ByteArray.ext
  apply Array.ext'
  simp
def hdF : List UInt8 := headL ++ [10, 60, 114, 62]
/-- a kid more, as its parts are put together -/
theorem kid_cat (h sp t : List UInt8) (q : ByteArray) (hq : q = bts h) :
    (sp = [] → t = [] → q ++ ⟨#[60, 107]⟩ ++ ⟨#[47, 62]⟩ = bts (h ++ kidT (sp, t))) ∧
    (sp ≠ [] → t = [] → q ++ ⟨#[60, 107]⟩ ++ ⟨#[32, 120, 109, 108, 110, 115, 61, 39]⟩ ++ bts sp ++ ⟨#[39]⟩ ++ ⟨#[47, 62]⟩ = bts (h ++ kidT (sp, t))) ∧
    (sp = [] → t ≠ [] → q ++ ⟨#[60, 107]⟩ ++ ⟨#[62]⟩ ++ bts (Tx.esc t) ++ ⟨#[60, 47, 107, 62]⟩ = bts (h ++ kidT (sp, t))) ∧
    (sp ≠ [] → t ≠ [] → q ++ ⟨#[60, 107]⟩ ++ ⟨#[32, 120, 109, 108, 110, 115, 61, 39]⟩ ++ bts sp ++ ⟨#[39]⟩ ++ ⟨#[62]⟩ ++ bts (Tx.esc t) ++ ⟨#[60, 47, 107, 62]⟩ = bts (h ++ kidT (sp, t))) := by
  subst hq
  refine ⟨fun h1 h2 => ?_, fun h1 h2 => ?_, fun h1 h2 => ?_, fun h1 h2 => ?_⟩ <;>
  · apply ByteArray.ext
    apply Array.ext'
    unfold kidT
    simp [h1, h2]
theorem mod2 (k : Nat) : ((k : Int).tmod 2 == 0) = decide (k % 2 = 0) := by
  have h : ((k : Int).tmod 2) = ((k % 2 : Nat) : Int) := by rw [Int.tmod_eq_emod_of_nonneg (by omega)]; omega
  rw [h, Bool.eq_iff_iff, beq_iff_eq, decide_eq_true_eq]
  omega
set_option maxHeartbeats 16000000 in
set_option maxRecDepth 100000 in
theorem canonForms_any (v : Value) (n : Nat) (s : ByteArray) (w : World) (hT : Tabs w) (hv : ReadsZ w v n) :
    Calls Tryd.prog 5 #[v, .string s] w (Holds w) := by
  have HAW := Lib.hid (fun (W : World) (h : Below w.heap.size w W) => awakeC_any W (hT.below h))
  have HWR := Lib.hid (fun (u : Value) (ks : List (List UInt8 × List UInt8)) (W : World) (h : Below w.heap.size w W) (ho : OwnN w.heap.size W u (nsOf ks)) (hl : ks.length ≤ 20) (hk : ∀ p ∈ ks, OkK p ∧ p.2.length ≤ 100) => write_any u (nsOf ks) W (hT.below h) ho.readM (by rw [nsOf_len]; omega) (forms_own hl hk))
  obtain ⟨A, cap, rfl, hx⟩ := hv
  have HX := Lib.hid hx
  have hem : s.toList.isEmpty = decide (s.data.toList = []) := by rw [show s = bts s.data.toList from rfl, bts_empty]
  have HSZ := Lib.hid (Lib.size_eq s)
  clear hx hT
  by_cases h100 : s.size ≤ 100
  · have g1 : decide ((s.size : Int) > 100) = false := decide_eq_false (by omega)
    have HVA := Lib.hid (fun W => rvalid_any s W (by omega))
    have HES := Lib.hid (fun W => rescape_any s W (by omega))
    cases hva : Tx.valid s.data.toList with
    | false =>
      rw [hva] at HVA
      clear hva
      go_enter Tryd.func5, Tryd.ntmps5
      go_wp2_with (first | (go_at_call 11; refine (HVA.out _).mono ?_; rintro e w1 ⟨rfl, rfl⟩) | (go_at_call 6; refine (HAW.out _ (Below.refl _ _)).mono ?_; rintro e w2 ⟨rfl, b2⟩))
      go_ret
      exact ⟨rfl, b2⟩
    | true =>
      rw [hva] at HVA
      have HVT := Lib.hid hva
      obtain ⟨T, hT⟩ : ∃ T, s.data.toList = T := ⟨_, rfl⟩
      have HTT := Lib.hid hT
      have hTl : T.length ≤ 100 := by rw [← hT, ← Lib.size_eq]; exact h100
      have HTL := Lib.hid hTl
      have hes := Tx.esc_len T
      obtain ⟨E, hE⟩ : ∃ E, (⟨(Tx.esc T).toArray⟩ : ByteArray) = E := ⟨_, rfl⟩
      have hEs : E.size ≤ 600 := by rw [← hE, bts_size]; omega
      have HEE : Hid (bts (Tx.esc T) = E) := hE
      rw [hT, hE] at HES
      rw [hT] at hem HVT
      clear hva hT hTl hes hE
      obtain ⟨Y, hY⟩ : ∃ Y, w.heap.size = Y := ⟨_, rfl⟩
      obtain ⟨W1, hW1⟩ : ∃ W, w.alloc (.cells #[.int .i64 (-1), .int .i64 0, .string ⟨#[114]⟩, .string ⟨#[]⟩, .slice none 0 0, .string ⟨#[]⟩] 32) = W := ⟨_, rfl⟩
      have B1 : Hid (Below w.heap.size w W1) := by rw [← hW1]; exact (Below.refl _ _).alloc (Nat.le_refl _) _
      have hk : Bk W1 Y 32 #[.int .i64 (-1), .int .i64 0, .string ⟨#[114]⟩, .string ⟨#[]⟩, .slice none 0 0, .string ⟨#[]⟩] := by rw [← hW1, ← hY]; exact Bk.new _ _ _
      have HO1 : Hid (OwnN w.heap.size W1 (.slice (some ⟨Y, 0, none⟩) 1 1) (nsOf [])) := OwnN.lit (B := w.heap.size) [(rootN, .slice none 0 0)] hk (by omega) 1 rfl (by decide) rfl (fun k hk => by simp at hk; subst hk; exact RowA.none _)
      have HH0 : Hid (bts (hdF ++ ([] : List (List UInt8 × List UInt8)).flatMap kidT) = ⟨#[60, 63, 120, 109, 108, 32, 118, 101, 114, 115, 105, 111, 110, 61, 39, 49, 46, 48, 39, 32, 101, 110, 99, 111, 100, 105, 110, 103, 61, 39, 85, 84, 70, 45, 56, 39, 63, 62, 10, 60, 114, 62]⟩) := rfl
      have HW1 := Lib.hid hW1
      have HYE := Lib.hid hY
      clear hW1 hY hk
      go_enter Tryd.func5, Tryd.ntmps5
      go_upto_region 4 with (go_at_call 11; refine (HVA.out _).mono ?_; rintro e w1 ⟨rfl, h6⟩; subst h6)
      rw [HW1.out, HYE.out]
      go_wp2_with fail
      go_loopw [5, 6, 7] (fun nv sv c wr => ∃ (k : Nat) (nw : Value) (o : ByteArray) (ks : List (List UInt8 × List UInt8)), k ≤ n ∧ k ≤ 20 ∧ c = .int .i64 k ∧ nv = nw ∧ sv = .string o ∧ Hid (ks.length = k) ∧ Hid (∀ p ∈ ks, OkK p ∧ p.2.length ≤ 100) ∧ Hid (OwnN w.heap.size wr nw (nsOf ks)) ∧ Hid (o = bts (hdF ++ ks.flatMap kidT)) ∧ o.size ≤ 100 + 1000 * k ∧ Hid (Below w.heap.size w wr)) (fun _ _ c _ => n - (intOf c).toNat)
      case atStart => exact ⟨0, _, _, [], Nat.zero_le _, Nat.zero_le _, rfl, rfl, rfl, rfl, Lib.hid (fun (p : List UInt8 × List UInt8) (h : p ∈ []) => absurd h List.not_mem_nil), HO1.out, HH0.out.symm, (show (42 : Nat) ≤ 100 + 1000 * 0 by omega), B1.out⟩
      case round =>
        obtain ⟨k, nw, o, ks, hk, hk20, rfl, hnv, rfl, hkl, hks, ho, hoo, hos, hb⟩ := hrel
        have hnv2 := hnv.symm
        clear hnv
        subst hnv2
        obtain ⟨NA, ncap, hne⟩ := ho.out.slice
        rw [nsOf_len, hkl.out] at hne
        subst hne
        by_cases hgo : k < n ∧ k < 20
        · obtain ⟨hlt, hlt20⟩ := hgo
          obtain ⟨ad, rfl, hlb, hc⟩ := HX.out (by omega)
          obtain ⟨z, hz⟩ := hc k hlt
          rw [← hb.out.cell (p := ad.add k) (by rw [addr_block]; exact hlb)] at hz
          obtain ⟨r, hr, hr3⟩ := uintMod z 3 (by omega) (by omega)
          have hr3' : r = 0 ∨ r = 1 ∨ r = 2 := by omega
          have hm2 := mod2 k
          obtain ⟨Y5, hY5⟩ : ∃ Y, wr.heap.size = Y := ⟨_, rfl⟩
          obtain ⟨W5, hW5⟩ : ∃ W, wr.alloc (.cells #[.string ⟨#[]⟩, .string ⟨#[117]⟩, .string ⟨#[118]⟩] 9) = W := ⟨_, rfl⟩
          have hk5 : Bk W5 Y5 9 #[.string ⟨#[]⟩, .string ⟨#[117]⟩, .string ⟨#[118]⟩] := by rw [← hW5, ← hY5]; exact Bk.new _ _ _
          have hw5 : Below wr.heap.size wr W5 := by rw [← hW5]; exact (Below.refl _ _).alloc (Nat.le_refl _) _
          have z5 : (wr.alloc (.cells #[.string ⟨#[]⟩, .string ⟨#[117]⟩, .string ⟨#[118]⟩] 9)).cell? (ad.add k) = some (.int .i64 z) := by rw [hW5]; exact (hw5.cell (by rw [addr_block]; have := hb.out.size; omega)).trans hz
          have g20 : decide ((k : Int) < 20) = true := decide_eq_true (by omega)
          have B5 : Hid (Below w.heap.size w W5) := hb.out.trans (hw5.mono hb.out.size)
          have O5 : Hid (OwnN w.heap.size W5 (.slice NA (k + 1) ncap) (nsOf ks)) := ho.out.below hw5
          have HW5 := Lib.hid hW5
          have HY5 := Lib.hid hY5
          have HR3 := Lib.hid hr3
          clear hc hz hW5 hY5 hk5 hw5 hb ho hr3
          have hos2 : o.size ≤ 30000 := by omega
          have hkb : k ≤ 20 := hk20
          by_cases hev : k % 2 = 0
          · have gev : ((k : Int).tmod 2 == 0) = true := by rw [hm2]; exact decide_eq_true hev
            have gev2 : (k : Int) % 2 = 0 := by omega
            by_cases hte : T = []
            · have gte : s.toList.isEmpty = true := by rw [hem]; exact decide_eq_true hte
              clear hm2 hev
              rcases hr3' with rfl | rfl | rfl
              · have hrr : wrap64 ((IntKind.u64.wrap z).tmod 3) = 0 := hr
                clear hr
                have hOK : OkK (([] : List UInt8), ([] : List UInt8)) ∧ (([] : List UInt8), ([] : List UInt8)).2.length ≤ 100 := ⟨⟨.inl rfl, Cn.valid_u.2.2⟩, Nat.zero_le _⟩
                have HKC : Hid (o ++ ⟨#[60, 107]⟩ ++ ⟨#[47, 62]⟩ = bts (hdF ++ (ks ++ [(([] : List UInt8), ([] : List UInt8))]).flatMap kidT)) := by
                  have h1 := (kid_cat (hdF ++ ks.flatMap kidT) ([] : List UInt8) ([] : List UInt8) o hoo.out).1 rfl rfl
                  unfold Hid
                  rw [List.flatMap_append]
                  simp only [List.flatMap_cons, List.flatMap_nil, List.append_nil]
                  rw [← List.append_assoc, ← h1]
                have HSZN : Hid ((o ++ ⟨#[60, 107]⟩ ++ ⟨#[47, 62]⟩).size ≤ 100 + 1000 * (k + 1)) := by
                  have h1 := kidT_len hOK.1 hOK.2
                  have h2 : o.size = (hdF ++ ks.flatMap kidT).length := by rw [hoo.out, bts_size]
                  unfold Hid
                  rw [HKC.out, bts_size, List.flatMap_append, ← List.append_assoc, List.length_append, ← h2]
                  simp only [List.flatMap_cons, List.flatMap_nil, List.append_nil]
                  omega
                have HKS : Hid (∀ p ∈ ks ++ [(([] : List UInt8), ([] : List UInt8))], OkK p ∧ p.2.length ≤ 100) := fun p hp => by
                  rcases List.mem_append.1 hp with hp | hp
                  · exact hks.out p hp
                  · rw [List.mem_singleton] at hp; rw [hp]; exact hOK
                have HKLN : Hid ((ks ++ [(([] : List UInt8), ([] : List UInt8))]).length = k + 1) := by unfold Hid; rw [List.length_append, hkl.out]; rfl
                obtain ⟨W8, hW8⟩ : ∃ W, (W5.alloc (.cells #[.int .i64 0, .int .i64 0, .string ⟨#[107]⟩, .string ⟨#[]⟩, .slice none 0 0, .string ⟨#[]⟩] 32)) = W := ⟨_, rfl⟩
                have B8 : Hid (Below W5.heap.size W5 W8) := by rw [← hW8]; exact ((Below.refl W5.heap.size W5).alloc (Nat.le_refl _) (.cells #[.int .i64 0, .int .i64 0, .string ⟨#[107]⟩, .string ⟨#[]⟩, .slice none 0 0, .string ⟨#[]⟩] 32))
                have hk8 : Bk W8 W5.heap.size 32 #[.int .i64 0, .int .i64 0, .string ⟨#[107]⟩, .string ⟨#[]⟩, .slice none 0 0, .string ⟨#[]⟩] := by rw [← hW8]; exact Bk.new W5 _ _
                have x0 : W8.cell? ⟨W5.heap.size, 0, none⟩ = some (.int .i64 0) := hk8.cell 0
                have x1 : W8.cell? ⟨W5.heap.size, 1, none⟩ = some (.int .i64 0) := hk8.cell 1
                have x2 : W8.cell? ⟨W5.heap.size, 2, none⟩ = some (.string ⟨#[107]⟩) := hk8.cell 2
                have x3 : W8.cell? ⟨W5.heap.size, 3, none⟩ = some (.string ⟨#[]⟩) := hk8.cell 3
                have x4 : W8.cell? ⟨W5.heap.size, 4, none⟩ = some (.slice none 0 0) := hk8.cell 4
                have x5 : W8.cell? ⟨W5.heap.size, 5, none⟩ = some (.string ⟨#[]⟩) := hk8.cell 5
                have O8 : Hid (OwnN w.heap.size W8 (.slice NA (k + 1) ncap) (nsOf ks)) := O5.out.below B8.out
                have hn1 : (nsOf ks).length ≤ 1000000000 := by rw [nsOf_len, hkl.out]; omega
                have HN1 := Lib.hid hn1
                have HB8 : Hid (w.heap.size ≤ W8.heap.size) := Nat.le_trans B5.out.size B8.out.size
                have HU8 : Hid (RowA W8 (.slice none 0 0) (kidN (([] : List UInt8), ([] : List UInt8))).2.2.2.2.1) := RowA.none _
                have HW8 := Lib.hid hW8
                clear hOK hn1 hem hW8 hk8 hte
                go_upto_region 9 with fail
                rw [HW5.out]
                go_upto_region 17 with (go_at_call 12; refine (HES.out _).mono ?_; rintro e w7 ⟨rfl, h6⟩; subst h6)
                rw [HW8.out]
                go_wp2_with (at_builtin; refine push_node rfl _ _ rfl w.heap.size (.slice NA (k + 1) ncap) (nsOf ks) (kidN (([] : List UInt8), ([] : List UInt8))) (.slice none 0 0) 0 0 ⟨#[107]⟩ ⟨#[]⟩ ⟨#[]⟩ rfl rfl rfl rfl rfl _ rfl O8.out HU8.out rfl HN1.out HB8.out ?_)
                intro v9 w9 o9 b9 k9
                have O9 : Hid (OwnN w.heap.size w9 v9 (nsOf (ks ++ [(([] : List UInt8), ([] : List UInt8))]))) := by unfold Hid; rw [nsOf_snoc]; exact o9
                have B9 : Hid (Below w.heap.size w w9) := (B5.out.trans (B8.out.mono B5.out.size)).trans b9
                clear o9 b9 k9
                go_wp2_with fail
                go_roundw
                case rel => exact ⟨k + 1, _, _, ks ++ [(([] : List UInt8), ([] : List UInt8))], by omega, by omega, by go_num, rfl, rfl, HKLN, HKS, O9, HKC, HSZN.out, B9⟩
                case measure => simp [intOf]; omega
              · have hrr : wrap64 ((IntKind.u64.wrap z).tmod 3) = 1 := hr
                clear hr
                have hOK : OkK ([117], ([] : List UInt8)) ∧ ([117], ([] : List UInt8)).2.length ≤ 100 := ⟨⟨.inr (.inl rfl), Cn.valid_u.2.2⟩, Nat.zero_le _⟩
                have HKC : Hid (o ++ ⟨#[60, 107]⟩ ++ ⟨#[32, 120, 109, 108, 110, 115, 61, 39]⟩ ++ ⟨#[117]⟩ ++ ⟨#[39]⟩ ++ ⟨#[47, 62]⟩ = bts (hdF ++ (ks ++ [([117], ([] : List UInt8))]).flatMap kidT)) := by
                  have h1 := (kid_cat (hdF ++ ks.flatMap kidT) [117] ([] : List UInt8) o hoo.out).2.1 (by decide) rfl
                  unfold Hid
                  rw [List.flatMap_append]
                  simp only [List.flatMap_cons, List.flatMap_nil, List.append_nil]
                  rw [← List.append_assoc, ← h1]
                have HSZN : Hid ((o ++ ⟨#[60, 107]⟩ ++ ⟨#[32, 120, 109, 108, 110, 115, 61, 39]⟩ ++ ⟨#[117]⟩ ++ ⟨#[39]⟩ ++ ⟨#[47, 62]⟩).size ≤ 100 + 1000 * (k + 1)) := by
                  have h1 := kidT_len hOK.1 hOK.2
                  have h2 : o.size = (hdF ++ ks.flatMap kidT).length := by rw [hoo.out, bts_size]
                  unfold Hid
                  rw [HKC.out, bts_size, List.flatMap_append, ← List.append_assoc, List.length_append, ← h2]
                  simp only [List.flatMap_cons, List.flatMap_nil, List.append_nil]
                  omega
                have HKS : Hid (∀ p ∈ ks ++ [([117], ([] : List UInt8))], OkK p ∧ p.2.length ≤ 100) := fun p hp => by
                  rcases List.mem_append.1 hp with hp | hp
                  · exact hks.out p hp
                  · rw [List.mem_singleton] at hp; rw [hp]; exact hOK
                have HKLN : Hid ((ks ++ [([117], ([] : List UInt8))]).length = k + 1) := by unfold Hid; rw [List.length_append, hkl.out]; rfl
                obtain ⟨W8, hW8⟩ : ∃ W, (W5.alloc (.cells #[.int .i64 0, .int .i64 0, .string ⟨#[107]⟩, .string ⟨#[117]⟩, .slice none 0 0, .string ⟨#[]⟩] 32)) = W := ⟨_, rfl⟩
                have B8 : Hid (Below W5.heap.size W5 W8) := by rw [← hW8]; exact ((Below.refl W5.heap.size W5).alloc (Nat.le_refl _) (.cells #[.int .i64 0, .int .i64 0, .string ⟨#[107]⟩, .string ⟨#[117]⟩, .slice none 0 0, .string ⟨#[]⟩] 32))
                have hk8 : Bk W8 W5.heap.size 32 #[.int .i64 0, .int .i64 0, .string ⟨#[107]⟩, .string ⟨#[117]⟩, .slice none 0 0, .string ⟨#[]⟩] := by rw [← hW8]; exact Bk.new W5 _ _
                have x0 : W8.cell? ⟨W5.heap.size, 0, none⟩ = some (.int .i64 0) := hk8.cell 0
                have x1 : W8.cell? ⟨W5.heap.size, 1, none⟩ = some (.int .i64 0) := hk8.cell 1
                have x2 : W8.cell? ⟨W5.heap.size, 2, none⟩ = some (.string ⟨#[107]⟩) := hk8.cell 2
                have x3 : W8.cell? ⟨W5.heap.size, 3, none⟩ = some (.string ⟨#[117]⟩) := hk8.cell 3
                have x4 : W8.cell? ⟨W5.heap.size, 4, none⟩ = some (.slice none 0 0) := hk8.cell 4
                have x5 : W8.cell? ⟨W5.heap.size, 5, none⟩ = some (.string ⟨#[]⟩) := hk8.cell 5
                have O8 : Hid (OwnN w.heap.size W8 (.slice NA (k + 1) ncap) (nsOf ks)) := O5.out.below B8.out
                have hn1 : (nsOf ks).length ≤ 1000000000 := by rw [nsOf_len, hkl.out]; omega
                have HN1 := Lib.hid hn1
                have HB8 : Hid (w.heap.size ≤ W8.heap.size) := Nat.le_trans B5.out.size B8.out.size
                have HU8 : Hid (RowA W8 (.slice none 0 0) (kidN ([117], ([] : List UInt8))).2.2.2.2.1) := RowA.none _
                have HW8 := Lib.hid hW8
                clear hOK hn1 hem hW8 hk8 hte
                go_upto_region 9 with fail
                rw [HW5.out]
                go_upto_region 17 with (go_at_call 12; refine (HES.out _).mono ?_; rintro e w7 ⟨rfl, h6⟩; subst h6)
                rw [HW8.out]
                go_wp2_with (at_builtin; refine push_node rfl _ _ rfl w.heap.size (.slice NA (k + 1) ncap) (nsOf ks) (kidN ([117], ([] : List UInt8))) (.slice none 0 0) 0 0 ⟨#[107]⟩ ⟨#[117]⟩ ⟨#[]⟩ rfl rfl rfl rfl rfl _ rfl O8.out HU8.out rfl HN1.out HB8.out ?_)
                intro v9 w9 o9 b9 k9
                have O9 : Hid (OwnN w.heap.size w9 v9 (nsOf (ks ++ [([117], ([] : List UInt8))]))) := by unfold Hid; rw [nsOf_snoc]; exact o9
                have B9 : Hid (Below w.heap.size w w9) := (B5.out.trans (B8.out.mono B5.out.size)).trans b9
                clear o9 b9 k9
                go_wp2_with fail
                go_roundw
                case rel => exact ⟨k + 1, _, _, ks ++ [([117], ([] : List UInt8))], by omega, by omega, by go_num, rfl, rfl, HKLN, HKS, O9, HKC, HSZN.out, B9⟩
                case measure => simp [intOf]; omega
              · have hrr : wrap64 ((IntKind.u64.wrap z).tmod 3) = 2 := hr
                clear hr
                have hOK : OkK ([118], ([] : List UInt8)) ∧ ([118], ([] : List UInt8)).2.length ≤ 100 := ⟨⟨.inr (.inr rfl), Cn.valid_u.2.2⟩, Nat.zero_le _⟩
                have HKC : Hid (o ++ ⟨#[60, 107]⟩ ++ ⟨#[32, 120, 109, 108, 110, 115, 61, 39]⟩ ++ ⟨#[118]⟩ ++ ⟨#[39]⟩ ++ ⟨#[47, 62]⟩ = bts (hdF ++ (ks ++ [([118], ([] : List UInt8))]).flatMap kidT)) := by
                  have h1 := (kid_cat (hdF ++ ks.flatMap kidT) [118] ([] : List UInt8) o hoo.out).2.1 (by decide) rfl
                  unfold Hid
                  rw [List.flatMap_append]
                  simp only [List.flatMap_cons, List.flatMap_nil, List.append_nil]
                  rw [← List.append_assoc, ← h1]
                have HSZN : Hid ((o ++ ⟨#[60, 107]⟩ ++ ⟨#[32, 120, 109, 108, 110, 115, 61, 39]⟩ ++ ⟨#[118]⟩ ++ ⟨#[39]⟩ ++ ⟨#[47, 62]⟩).size ≤ 100 + 1000 * (k + 1)) := by
                  have h1 := kidT_len hOK.1 hOK.2
                  have h2 : o.size = (hdF ++ ks.flatMap kidT).length := by rw [hoo.out, bts_size]
                  unfold Hid
                  rw [HKC.out, bts_size, List.flatMap_append, ← List.append_assoc, List.length_append, ← h2]
                  simp only [List.flatMap_cons, List.flatMap_nil, List.append_nil]
                  omega
                have HKS : Hid (∀ p ∈ ks ++ [([118], ([] : List UInt8))], OkK p ∧ p.2.length ≤ 100) := fun p hp => by
                  rcases List.mem_append.1 hp with hp | hp
                  · exact hks.out p hp
                  · rw [List.mem_singleton] at hp; rw [hp]; exact hOK
                have HKLN : Hid ((ks ++ [([118], ([] : List UInt8))]).length = k + 1) := by unfold Hid; rw [List.length_append, hkl.out]; rfl
                obtain ⟨W8, hW8⟩ : ∃ W, (W5.alloc (.cells #[.int .i64 0, .int .i64 0, .string ⟨#[107]⟩, .string ⟨#[118]⟩, .slice none 0 0, .string ⟨#[]⟩] 32)) = W := ⟨_, rfl⟩
                have B8 : Hid (Below W5.heap.size W5 W8) := by rw [← hW8]; exact ((Below.refl W5.heap.size W5).alloc (Nat.le_refl _) (.cells #[.int .i64 0, .int .i64 0, .string ⟨#[107]⟩, .string ⟨#[118]⟩, .slice none 0 0, .string ⟨#[]⟩] 32))
                have hk8 : Bk W8 W5.heap.size 32 #[.int .i64 0, .int .i64 0, .string ⟨#[107]⟩, .string ⟨#[118]⟩, .slice none 0 0, .string ⟨#[]⟩] := by rw [← hW8]; exact Bk.new W5 _ _
                have x0 : W8.cell? ⟨W5.heap.size, 0, none⟩ = some (.int .i64 0) := hk8.cell 0
                have x1 : W8.cell? ⟨W5.heap.size, 1, none⟩ = some (.int .i64 0) := hk8.cell 1
                have x2 : W8.cell? ⟨W5.heap.size, 2, none⟩ = some (.string ⟨#[107]⟩) := hk8.cell 2
                have x3 : W8.cell? ⟨W5.heap.size, 3, none⟩ = some (.string ⟨#[118]⟩) := hk8.cell 3
                have x4 : W8.cell? ⟨W5.heap.size, 4, none⟩ = some (.slice none 0 0) := hk8.cell 4
                have x5 : W8.cell? ⟨W5.heap.size, 5, none⟩ = some (.string ⟨#[]⟩) := hk8.cell 5
                have O8 : Hid (OwnN w.heap.size W8 (.slice NA (k + 1) ncap) (nsOf ks)) := O5.out.below B8.out
                have hn1 : (nsOf ks).length ≤ 1000000000 := by rw [nsOf_len, hkl.out]; omega
                have HN1 := Lib.hid hn1
                have HB8 : Hid (w.heap.size ≤ W8.heap.size) := Nat.le_trans B5.out.size B8.out.size
                have HU8 : Hid (RowA W8 (.slice none 0 0) (kidN ([118], ([] : List UInt8))).2.2.2.2.1) := RowA.none _
                have HW8 := Lib.hid hW8
                clear hOK hn1 hem hW8 hk8 hte
                go_upto_region 9 with fail
                rw [HW5.out]
                go_upto_region 17 with (go_at_call 12; refine (HES.out _).mono ?_; rintro e w7 ⟨rfl, h6⟩; subst h6)
                rw [HW8.out]
                go_wp2_with (at_builtin; refine push_node rfl _ _ rfl w.heap.size (.slice NA (k + 1) ncap) (nsOf ks) (kidN ([118], ([] : List UInt8))) (.slice none 0 0) 0 0 ⟨#[107]⟩ ⟨#[118]⟩ ⟨#[]⟩ rfl rfl rfl rfl rfl _ rfl O8.out HU8.out rfl HN1.out HB8.out ?_)
                intro v9 w9 o9 b9 k9
                have O9 : Hid (OwnN w.heap.size w9 v9 (nsOf (ks ++ [([118], ([] : List UInt8))]))) := by unfold Hid; rw [nsOf_snoc]; exact o9
                have B9 : Hid (Below w.heap.size w w9) := (B5.out.trans (B8.out.mono B5.out.size)).trans b9
                clear o9 b9 k9
                go_wp2_with fail
                go_roundw
                case rel => exact ⟨k + 1, _, _, ks ++ [([118], ([] : List UInt8))], by omega, by omega, by go_num, rfl, rfl, HKLN, HKS, O9, HKC, HSZN.out, B9⟩
                case measure => simp [intOf]; omega
            · have gte : s.toList.isEmpty = false := by rw [hem]; exact decide_eq_false hte
              clear hm2 hev
              rcases hr3' with rfl | rfl | rfl
              · have hrr : wrap64 ((IntKind.u64.wrap z).tmod 3) = 0 := hr
                clear hr
                have hOK : OkK (([] : List UInt8), T) ∧ (([] : List UInt8), T).2.length ≤ 100 := ⟨⟨.inl rfl, HVT.out⟩, HTL.out⟩
                have HKC : Hid (o ++ ⟨#[60, 107]⟩ ++ ⟨#[62]⟩ ++ E ++ ⟨#[60, 47, 107, 62]⟩ = bts (hdF ++ (ks ++ [(([] : List UInt8), T)]).flatMap kidT)) := by
                  have h1 := (kid_cat (hdF ++ ks.flatMap kidT) ([] : List UInt8) T o hoo.out).2.2.1 rfl hte
                  unfold Hid
                  rw [List.flatMap_append]
                  simp only [List.flatMap_cons, List.flatMap_nil, List.append_nil]
                  rw [← List.append_assoc, ← h1, HEE.out]
                have HSZN : Hid ((o ++ ⟨#[60, 107]⟩ ++ ⟨#[62]⟩ ++ E ++ ⟨#[60, 47, 107, 62]⟩).size ≤ 100 + 1000 * (k + 1)) := by
                  have h1 := kidT_len hOK.1 hOK.2
                  have h2 : o.size = (hdF ++ ks.flatMap kidT).length := by rw [hoo.out, bts_size]
                  unfold Hid
                  rw [HKC.out, bts_size, List.flatMap_append, ← List.append_assoc, List.length_append, ← h2]
                  simp only [List.flatMap_cons, List.flatMap_nil, List.append_nil]
                  omega
                have HKS : Hid (∀ p ∈ ks ++ [(([] : List UInt8), T)], OkK p ∧ p.2.length ≤ 100) := fun p hp => by
                  rcases List.mem_append.1 hp with hp | hp
                  · exact hks.out p hp
                  · rw [List.mem_singleton] at hp; rw [hp]; exact hOK
                have HKLN : Hid ((ks ++ [(([] : List UInt8), T)]).length = k + 1) := by unfold Hid; rw [List.length_append, hkl.out]; rfl
                obtain ⟨W8, hW8⟩ : ∃ W, (W5.alloc (.cells #[.int .i64 0, .int .i64 0, .string ⟨#[107]⟩, .string ⟨#[]⟩, .slice none 0 0, .string s] 32)) = W := ⟨_, rfl⟩
                have B8 : Hid (Below W5.heap.size W5 W8) := by rw [← hW8]; exact ((Below.refl W5.heap.size W5).alloc (Nat.le_refl _) (.cells #[.int .i64 0, .int .i64 0, .string ⟨#[107]⟩, .string ⟨#[]⟩, .slice none 0 0, .string s] 32))
                have hk8 : Bk W8 W5.heap.size 32 #[.int .i64 0, .int .i64 0, .string ⟨#[107]⟩, .string ⟨#[]⟩, .slice none 0 0, .string s] := by rw [← hW8]; exact Bk.new W5 _ _
                have x0 : W8.cell? ⟨W5.heap.size, 0, none⟩ = some (.int .i64 0) := hk8.cell 0
                have x1 : W8.cell? ⟨W5.heap.size, 1, none⟩ = some (.int .i64 0) := hk8.cell 1
                have x2 : W8.cell? ⟨W5.heap.size, 2, none⟩ = some (.string ⟨#[107]⟩) := hk8.cell 2
                have x3 : W8.cell? ⟨W5.heap.size, 3, none⟩ = some (.string ⟨#[]⟩) := hk8.cell 3
                have x4 : W8.cell? ⟨W5.heap.size, 4, none⟩ = some (.slice none 0 0) := hk8.cell 4
                have x5 : W8.cell? ⟨W5.heap.size, 5, none⟩ = some (.string s) := hk8.cell 5
                have O8 : Hid (OwnN w.heap.size W8 (.slice NA (k + 1) ncap) (nsOf ks)) := O5.out.below B8.out
                have hn1 : (nsOf ks).length ≤ 1000000000 := by rw [nsOf_len, hkl.out]; omega
                have HN1 := Lib.hid hn1
                have HB8 : Hid (w.heap.size ≤ W8.heap.size) := Nat.le_trans B5.out.size B8.out.size
                have HU8 : Hid (RowA W8 (.slice none 0 0) (kidN (([] : List UInt8), T)).2.2.2.2.1) := RowA.none _
                have HW8 := Lib.hid hW8
                clear hOK hn1 hem hW8 hk8 hte
                go_upto_region 9 with fail
                rw [HW5.out]
                go_upto_region 17 with (go_at_call 12; refine (HES.out _).mono ?_; rintro e w7 ⟨rfl, h6⟩; subst h6)
                rw [HW8.out]
                go_wp2_with (at_builtin; refine push_node rfl _ _ rfl w.heap.size (.slice NA (k + 1) ncap) (nsOf ks) (kidN (([] : List UInt8), T)) (.slice none 0 0) 0 0 ⟨#[107]⟩ ⟨#[]⟩ s rfl rfl rfl rfl (by rw [show (kidN (([] : List UInt8), T)).2.2.2.2.2 = T from rfl, ← HTT.out]) _ rfl O8.out HU8.out rfl HN1.out HB8.out ?_)
                intro v9 w9 o9 b9 k9
                have O9 : Hid (OwnN w.heap.size w9 v9 (nsOf (ks ++ [(([] : List UInt8), T)]))) := by unfold Hid; rw [nsOf_snoc]; exact o9
                have B9 : Hid (Below w.heap.size w w9) := (B5.out.trans (B8.out.mono B5.out.size)).trans b9
                clear o9 b9 k9
                go_wp2_with fail
                go_roundw
                case rel => exact ⟨k + 1, _, _, ks ++ [(([] : List UInt8), T)], by omega, by omega, by go_num, rfl, rfl, HKLN, HKS, O9, HKC, HSZN.out, B9⟩
                case measure => simp [intOf]; omega
              · have hrr : wrap64 ((IntKind.u64.wrap z).tmod 3) = 1 := hr
                clear hr
                have hOK : OkK ([117], T) ∧ ([117], T).2.length ≤ 100 := ⟨⟨.inr (.inl rfl), HVT.out⟩, HTL.out⟩
                have HKC : Hid (o ++ ⟨#[60, 107]⟩ ++ ⟨#[32, 120, 109, 108, 110, 115, 61, 39]⟩ ++ ⟨#[117]⟩ ++ ⟨#[39]⟩ ++ ⟨#[62]⟩ ++ E ++ ⟨#[60, 47, 107, 62]⟩ = bts (hdF ++ (ks ++ [([117], T)]).flatMap kidT)) := by
                  have h1 := (kid_cat (hdF ++ ks.flatMap kidT) [117] T o hoo.out).2.2.2 (by decide) hte
                  unfold Hid
                  rw [List.flatMap_append]
                  simp only [List.flatMap_cons, List.flatMap_nil, List.append_nil]
                  rw [← List.append_assoc, ← h1, HEE.out]
                have HSZN : Hid ((o ++ ⟨#[60, 107]⟩ ++ ⟨#[32, 120, 109, 108, 110, 115, 61, 39]⟩ ++ ⟨#[117]⟩ ++ ⟨#[39]⟩ ++ ⟨#[62]⟩ ++ E ++ ⟨#[60, 47, 107, 62]⟩).size ≤ 100 + 1000 * (k + 1)) := by
                  have h1 := kidT_len hOK.1 hOK.2
                  have h2 : o.size = (hdF ++ ks.flatMap kidT).length := by rw [hoo.out, bts_size]
                  unfold Hid
                  rw [HKC.out, bts_size, List.flatMap_append, ← List.append_assoc, List.length_append, ← h2]
                  simp only [List.flatMap_cons, List.flatMap_nil, List.append_nil]
                  omega
                have HKS : Hid (∀ p ∈ ks ++ [([117], T)], OkK p ∧ p.2.length ≤ 100) := fun p hp => by
                  rcases List.mem_append.1 hp with hp | hp
                  · exact hks.out p hp
                  · rw [List.mem_singleton] at hp; rw [hp]; exact hOK
                have HKLN : Hid ((ks ++ [([117], T)]).length = k + 1) := by unfold Hid; rw [List.length_append, hkl.out]; rfl
                obtain ⟨W8, hW8⟩ : ∃ W, (W5.alloc (.cells #[.int .i64 0, .int .i64 0, .string ⟨#[107]⟩, .string ⟨#[117]⟩, .slice none 0 0, .string s] 32)) = W := ⟨_, rfl⟩
                have B8 : Hid (Below W5.heap.size W5 W8) := by rw [← hW8]; exact ((Below.refl W5.heap.size W5).alloc (Nat.le_refl _) (.cells #[.int .i64 0, .int .i64 0, .string ⟨#[107]⟩, .string ⟨#[117]⟩, .slice none 0 0, .string s] 32))
                have hk8 : Bk W8 W5.heap.size 32 #[.int .i64 0, .int .i64 0, .string ⟨#[107]⟩, .string ⟨#[117]⟩, .slice none 0 0, .string s] := by rw [← hW8]; exact Bk.new W5 _ _
                have x0 : W8.cell? ⟨W5.heap.size, 0, none⟩ = some (.int .i64 0) := hk8.cell 0
                have x1 : W8.cell? ⟨W5.heap.size, 1, none⟩ = some (.int .i64 0) := hk8.cell 1
                have x2 : W8.cell? ⟨W5.heap.size, 2, none⟩ = some (.string ⟨#[107]⟩) := hk8.cell 2
                have x3 : W8.cell? ⟨W5.heap.size, 3, none⟩ = some (.string ⟨#[117]⟩) := hk8.cell 3
                have x4 : W8.cell? ⟨W5.heap.size, 4, none⟩ = some (.slice none 0 0) := hk8.cell 4
                have x5 : W8.cell? ⟨W5.heap.size, 5, none⟩ = some (.string s) := hk8.cell 5
                have O8 : Hid (OwnN w.heap.size W8 (.slice NA (k + 1) ncap) (nsOf ks)) := O5.out.below B8.out
                have hn1 : (nsOf ks).length ≤ 1000000000 := by rw [nsOf_len, hkl.out]; omega
                have HN1 := Lib.hid hn1
                have HB8 : Hid (w.heap.size ≤ W8.heap.size) := Nat.le_trans B5.out.size B8.out.size
                have HU8 : Hid (RowA W8 (.slice none 0 0) (kidN ([117], T)).2.2.2.2.1) := RowA.none _
                have HW8 := Lib.hid hW8
                clear hOK hn1 hem hW8 hk8 hte
                go_upto_region 9 with fail
                rw [HW5.out]
                go_upto_region 17 with (go_at_call 12; refine (HES.out _).mono ?_; rintro e w7 ⟨rfl, h6⟩; subst h6)
                rw [HW8.out]
                go_wp2_with (at_builtin; refine push_node rfl _ _ rfl w.heap.size (.slice NA (k + 1) ncap) (nsOf ks) (kidN ([117], T)) (.slice none 0 0) 0 0 ⟨#[107]⟩ ⟨#[117]⟩ s rfl rfl rfl rfl (by rw [show (kidN ([117], T)).2.2.2.2.2 = T from rfl, ← HTT.out]) _ rfl O8.out HU8.out rfl HN1.out HB8.out ?_)
                intro v9 w9 o9 b9 k9
                have O9 : Hid (OwnN w.heap.size w9 v9 (nsOf (ks ++ [([117], T)]))) := by unfold Hid; rw [nsOf_snoc]; exact o9
                have B9 : Hid (Below w.heap.size w w9) := (B5.out.trans (B8.out.mono B5.out.size)).trans b9
                clear o9 b9 k9
                go_wp2_with fail
                go_roundw
                case rel => exact ⟨k + 1, _, _, ks ++ [([117], T)], by omega, by omega, by go_num, rfl, rfl, HKLN, HKS, O9, HKC, HSZN.out, B9⟩
                case measure => simp [intOf]; omega
              · have hrr : wrap64 ((IntKind.u64.wrap z).tmod 3) = 2 := hr
                clear hr
                have hOK : OkK ([118], T) ∧ ([118], T).2.length ≤ 100 := ⟨⟨.inr (.inr rfl), HVT.out⟩, HTL.out⟩
                have HKC : Hid (o ++ ⟨#[60, 107]⟩ ++ ⟨#[32, 120, 109, 108, 110, 115, 61, 39]⟩ ++ ⟨#[118]⟩ ++ ⟨#[39]⟩ ++ ⟨#[62]⟩ ++ E ++ ⟨#[60, 47, 107, 62]⟩ = bts (hdF ++ (ks ++ [([118], T)]).flatMap kidT)) := by
                  have h1 := (kid_cat (hdF ++ ks.flatMap kidT) [118] T o hoo.out).2.2.2 (by decide) hte
                  unfold Hid
                  rw [List.flatMap_append]
                  simp only [List.flatMap_cons, List.flatMap_nil, List.append_nil]
                  rw [← List.append_assoc, ← h1, HEE.out]
                have HSZN : Hid ((o ++ ⟨#[60, 107]⟩ ++ ⟨#[32, 120, 109, 108, 110, 115, 61, 39]⟩ ++ ⟨#[118]⟩ ++ ⟨#[39]⟩ ++ ⟨#[62]⟩ ++ E ++ ⟨#[60, 47, 107, 62]⟩).size ≤ 100 + 1000 * (k + 1)) := by
                  have h1 := kidT_len hOK.1 hOK.2
                  have h2 : o.size = (hdF ++ ks.flatMap kidT).length := by rw [hoo.out, bts_size]
                  unfold Hid
                  rw [HKC.out, bts_size, List.flatMap_append, ← List.append_assoc, List.length_append, ← h2]
                  simp only [List.flatMap_cons, List.flatMap_nil, List.append_nil]
                  omega
                have HKS : Hid (∀ p ∈ ks ++ [([118], T)], OkK p ∧ p.2.length ≤ 100) := fun p hp => by
                  rcases List.mem_append.1 hp with hp | hp
                  · exact hks.out p hp
                  · rw [List.mem_singleton] at hp; rw [hp]; exact hOK
                have HKLN : Hid ((ks ++ [([118], T)]).length = k + 1) := by unfold Hid; rw [List.length_append, hkl.out]; rfl
                obtain ⟨W8, hW8⟩ : ∃ W, (W5.alloc (.cells #[.int .i64 0, .int .i64 0, .string ⟨#[107]⟩, .string ⟨#[118]⟩, .slice none 0 0, .string s] 32)) = W := ⟨_, rfl⟩
                have B8 : Hid (Below W5.heap.size W5 W8) := by rw [← hW8]; exact ((Below.refl W5.heap.size W5).alloc (Nat.le_refl _) (.cells #[.int .i64 0, .int .i64 0, .string ⟨#[107]⟩, .string ⟨#[118]⟩, .slice none 0 0, .string s] 32))
                have hk8 : Bk W8 W5.heap.size 32 #[.int .i64 0, .int .i64 0, .string ⟨#[107]⟩, .string ⟨#[118]⟩, .slice none 0 0, .string s] := by rw [← hW8]; exact Bk.new W5 _ _
                have x0 : W8.cell? ⟨W5.heap.size, 0, none⟩ = some (.int .i64 0) := hk8.cell 0
                have x1 : W8.cell? ⟨W5.heap.size, 1, none⟩ = some (.int .i64 0) := hk8.cell 1
                have x2 : W8.cell? ⟨W5.heap.size, 2, none⟩ = some (.string ⟨#[107]⟩) := hk8.cell 2
                have x3 : W8.cell? ⟨W5.heap.size, 3, none⟩ = some (.string ⟨#[118]⟩) := hk8.cell 3
                have x4 : W8.cell? ⟨W5.heap.size, 4, none⟩ = some (.slice none 0 0) := hk8.cell 4
                have x5 : W8.cell? ⟨W5.heap.size, 5, none⟩ = some (.string s) := hk8.cell 5
                have O8 : Hid (OwnN w.heap.size W8 (.slice NA (k + 1) ncap) (nsOf ks)) := O5.out.below B8.out
                have hn1 : (nsOf ks).length ≤ 1000000000 := by rw [nsOf_len, hkl.out]; omega
                have HN1 := Lib.hid hn1
                have HB8 : Hid (w.heap.size ≤ W8.heap.size) := Nat.le_trans B5.out.size B8.out.size
                have HU8 : Hid (RowA W8 (.slice none 0 0) (kidN ([118], T)).2.2.2.2.1) := RowA.none _
                have HW8 := Lib.hid hW8
                clear hOK hn1 hem hW8 hk8 hte
                go_upto_region 9 with fail
                rw [HW5.out]
                go_upto_region 17 with (go_at_call 12; refine (HES.out _).mono ?_; rintro e w7 ⟨rfl, h6⟩; subst h6)
                rw [HW8.out]
                go_wp2_with (at_builtin; refine push_node rfl _ _ rfl w.heap.size (.slice NA (k + 1) ncap) (nsOf ks) (kidN ([118], T)) (.slice none 0 0) 0 0 ⟨#[107]⟩ ⟨#[118]⟩ s rfl rfl rfl rfl (by rw [show (kidN ([118], T)).2.2.2.2.2 = T from rfl, ← HTT.out]) _ rfl O8.out HU8.out rfl HN1.out HB8.out ?_)
                intro v9 w9 o9 b9 k9
                have O9 : Hid (OwnN w.heap.size w9 v9 (nsOf (ks ++ [([118], T)]))) := by unfold Hid; rw [nsOf_snoc]; exact o9
                have B9 : Hid (Below w.heap.size w w9) := (B5.out.trans (B8.out.mono B5.out.size)).trans b9
                clear o9 b9 k9
                go_wp2_with fail
                go_roundw
                case rel => exact ⟨k + 1, _, _, ks ++ [([118], T)], by omega, by omega, by go_num, rfl, rfl, HKLN, HKS, O9, HKC, HSZN.out, B9⟩
                case measure => simp [intOf]; omega
          · have gev : ((k : Int).tmod 2 == 0) = false := by rw [hm2]; exact decide_eq_false hev
            have gev2 : ¬ ((k : Int) % 2 = 0) := by omega
            clear hm2 hev
            rcases hr3' with rfl | rfl | rfl
            · have hrr : wrap64 ((IntKind.u64.wrap z).tmod 3) = 0 := hr
              clear hr
              have hOK : OkK (([] : List UInt8), ([] : List UInt8)) ∧ (([] : List UInt8), ([] : List UInt8)).2.length ≤ 100 := ⟨⟨.inl rfl, Cn.valid_u.2.2⟩, Nat.zero_le _⟩
              have HKC : Hid (o ++ ⟨#[60, 107]⟩ ++ ⟨#[47, 62]⟩ = bts (hdF ++ (ks ++ [(([] : List UInt8), ([] : List UInt8))]).flatMap kidT)) := by
                have h1 := (kid_cat (hdF ++ ks.flatMap kidT) ([] : List UInt8) ([] : List UInt8) o hoo.out).1 rfl rfl
                unfold Hid
                rw [List.flatMap_append]
                simp only [List.flatMap_cons, List.flatMap_nil, List.append_nil]
                rw [← List.append_assoc, ← h1]
              have HSZN : Hid ((o ++ ⟨#[60, 107]⟩ ++ ⟨#[47, 62]⟩).size ≤ 100 + 1000 * (k + 1)) := by
                have h1 := kidT_len hOK.1 hOK.2
                have h2 : o.size = (hdF ++ ks.flatMap kidT).length := by rw [hoo.out, bts_size]
                unfold Hid
                rw [HKC.out, bts_size, List.flatMap_append, ← List.append_assoc, List.length_append, ← h2]
                simp only [List.flatMap_cons, List.flatMap_nil, List.append_nil]
                omega
              have HKS : Hid (∀ p ∈ ks ++ [(([] : List UInt8), ([] : List UInt8))], OkK p ∧ p.2.length ≤ 100) := fun p hp => by
                rcases List.mem_append.1 hp with hp | hp
                · exact hks.out p hp
                · rw [List.mem_singleton] at hp; rw [hp]; exact hOK
              have HKLN : Hid ((ks ++ [(([] : List UInt8), ([] : List UInt8))]).length = k + 1) := by unfold Hid; rw [List.length_append, hkl.out]; rfl
              obtain ⟨W8, hW8⟩ : ∃ W, (W5.alloc (.cells #[.int .i64 0, .int .i64 0, .string ⟨#[107]⟩, .string ⟨#[]⟩, .slice none 0 0, .string ⟨#[]⟩] 32)) = W := ⟨_, rfl⟩
              have B8 : Hid (Below W5.heap.size W5 W8) := by rw [← hW8]; exact ((Below.refl W5.heap.size W5).alloc (Nat.le_refl _) (.cells #[.int .i64 0, .int .i64 0, .string ⟨#[107]⟩, .string ⟨#[]⟩, .slice none 0 0, .string ⟨#[]⟩] 32))
              have hk8 : Bk W8 W5.heap.size 32 #[.int .i64 0, .int .i64 0, .string ⟨#[107]⟩, .string ⟨#[]⟩, .slice none 0 0, .string ⟨#[]⟩] := by rw [← hW8]; exact Bk.new W5 _ _
              have x0 : W8.cell? ⟨W5.heap.size, 0, none⟩ = some (.int .i64 0) := hk8.cell 0
              have x1 : W8.cell? ⟨W5.heap.size, 1, none⟩ = some (.int .i64 0) := hk8.cell 1
              have x2 : W8.cell? ⟨W5.heap.size, 2, none⟩ = some (.string ⟨#[107]⟩) := hk8.cell 2
              have x3 : W8.cell? ⟨W5.heap.size, 3, none⟩ = some (.string ⟨#[]⟩) := hk8.cell 3
              have x4 : W8.cell? ⟨W5.heap.size, 4, none⟩ = some (.slice none 0 0) := hk8.cell 4
              have x5 : W8.cell? ⟨W5.heap.size, 5, none⟩ = some (.string ⟨#[]⟩) := hk8.cell 5
              have O8 : Hid (OwnN w.heap.size W8 (.slice NA (k + 1) ncap) (nsOf ks)) := O5.out.below B8.out
              have hn1 : (nsOf ks).length ≤ 1000000000 := by rw [nsOf_len, hkl.out]; omega
              have HN1 := Lib.hid hn1
              have HB8 : Hid (w.heap.size ≤ W8.heap.size) := Nat.le_trans B5.out.size B8.out.size
              have HU8 : Hid (RowA W8 (.slice none 0 0) (kidN (([] : List UInt8), ([] : List UInt8))).2.2.2.2.1) := RowA.none _
              have HW8 := Lib.hid hW8
              clear hOK hn1 hem hW8 hk8
              go_upto_region 9 with fail
              rw [HW5.out]
              go_upto_region 17 with (go_at_call 12; refine (HES.out _).mono ?_; rintro e w7 ⟨rfl, h6⟩; subst h6)
              rw [HW8.out]
              go_wp2_with (at_builtin; refine push_node rfl _ _ rfl w.heap.size (.slice NA (k + 1) ncap) (nsOf ks) (kidN (([] : List UInt8), ([] : List UInt8))) (.slice none 0 0) 0 0 ⟨#[107]⟩ ⟨#[]⟩ ⟨#[]⟩ rfl rfl rfl rfl rfl _ rfl O8.out HU8.out rfl HN1.out HB8.out ?_)
              intro v9 w9 o9 b9 k9
              have O9 : Hid (OwnN w.heap.size w9 v9 (nsOf (ks ++ [(([] : List UInt8), ([] : List UInt8))]))) := by unfold Hid; rw [nsOf_snoc]; exact o9
              have B9 : Hid (Below w.heap.size w w9) := (B5.out.trans (B8.out.mono B5.out.size)).trans b9
              clear o9 b9 k9
              go_wp2_with fail
              go_roundw
              case rel => exact ⟨k + 1, _, _, ks ++ [(([] : List UInt8), ([] : List UInt8))], by omega, by omega, by go_num, rfl, rfl, HKLN, HKS, O9, HKC, HSZN.out, B9⟩
              case measure => simp [intOf]; omega
            · have hrr : wrap64 ((IntKind.u64.wrap z).tmod 3) = 1 := hr
              clear hr
              have hOK : OkK ([117], ([] : List UInt8)) ∧ ([117], ([] : List UInt8)).2.length ≤ 100 := ⟨⟨.inr (.inl rfl), Cn.valid_u.2.2⟩, Nat.zero_le _⟩
              have HKC : Hid (o ++ ⟨#[60, 107]⟩ ++ ⟨#[32, 120, 109, 108, 110, 115, 61, 39]⟩ ++ ⟨#[117]⟩ ++ ⟨#[39]⟩ ++ ⟨#[47, 62]⟩ = bts (hdF ++ (ks ++ [([117], ([] : List UInt8))]).flatMap kidT)) := by
                have h1 := (kid_cat (hdF ++ ks.flatMap kidT) [117] ([] : List UInt8) o hoo.out).2.1 (by decide) rfl
                unfold Hid
                rw [List.flatMap_append]
                simp only [List.flatMap_cons, List.flatMap_nil, List.append_nil]
                rw [← List.append_assoc, ← h1]
              have HSZN : Hid ((o ++ ⟨#[60, 107]⟩ ++ ⟨#[32, 120, 109, 108, 110, 115, 61, 39]⟩ ++ ⟨#[117]⟩ ++ ⟨#[39]⟩ ++ ⟨#[47, 62]⟩).size ≤ 100 + 1000 * (k + 1)) := by
                have h1 := kidT_len hOK.1 hOK.2
                have h2 : o.size = (hdF ++ ks.flatMap kidT).length := by rw [hoo.out, bts_size]
                unfold Hid
                rw [HKC.out, bts_size, List.flatMap_append, ← List.append_assoc, List.length_append, ← h2]
                simp only [List.flatMap_cons, List.flatMap_nil, List.append_nil]
                omega
              have HKS : Hid (∀ p ∈ ks ++ [([117], ([] : List UInt8))], OkK p ∧ p.2.length ≤ 100) := fun p hp => by
                rcases List.mem_append.1 hp with hp | hp
                · exact hks.out p hp
                · rw [List.mem_singleton] at hp; rw [hp]; exact hOK
              have HKLN : Hid ((ks ++ [([117], ([] : List UInt8))]).length = k + 1) := by unfold Hid; rw [List.length_append, hkl.out]; rfl
              obtain ⟨W8, hW8⟩ : ∃ W, (W5.alloc (.cells #[.int .i64 0, .int .i64 0, .string ⟨#[107]⟩, .string ⟨#[117]⟩, .slice none 0 0, .string ⟨#[]⟩] 32)) = W := ⟨_, rfl⟩
              have B8 : Hid (Below W5.heap.size W5 W8) := by rw [← hW8]; exact ((Below.refl W5.heap.size W5).alloc (Nat.le_refl _) (.cells #[.int .i64 0, .int .i64 0, .string ⟨#[107]⟩, .string ⟨#[117]⟩, .slice none 0 0, .string ⟨#[]⟩] 32))
              have hk8 : Bk W8 W5.heap.size 32 #[.int .i64 0, .int .i64 0, .string ⟨#[107]⟩, .string ⟨#[117]⟩, .slice none 0 0, .string ⟨#[]⟩] := by rw [← hW8]; exact Bk.new W5 _ _
              have x0 : W8.cell? ⟨W5.heap.size, 0, none⟩ = some (.int .i64 0) := hk8.cell 0
              have x1 : W8.cell? ⟨W5.heap.size, 1, none⟩ = some (.int .i64 0) := hk8.cell 1
              have x2 : W8.cell? ⟨W5.heap.size, 2, none⟩ = some (.string ⟨#[107]⟩) := hk8.cell 2
              have x3 : W8.cell? ⟨W5.heap.size, 3, none⟩ = some (.string ⟨#[117]⟩) := hk8.cell 3
              have x4 : W8.cell? ⟨W5.heap.size, 4, none⟩ = some (.slice none 0 0) := hk8.cell 4
              have x5 : W8.cell? ⟨W5.heap.size, 5, none⟩ = some (.string ⟨#[]⟩) := hk8.cell 5
              have O8 : Hid (OwnN w.heap.size W8 (.slice NA (k + 1) ncap) (nsOf ks)) := O5.out.below B8.out
              have hn1 : (nsOf ks).length ≤ 1000000000 := by rw [nsOf_len, hkl.out]; omega
              have HN1 := Lib.hid hn1
              have HB8 : Hid (w.heap.size ≤ W8.heap.size) := Nat.le_trans B5.out.size B8.out.size
              have HU8 : Hid (RowA W8 (.slice none 0 0) (kidN ([117], ([] : List UInt8))).2.2.2.2.1) := RowA.none _
              have HW8 := Lib.hid hW8
              clear hOK hn1 hem hW8 hk8
              go_upto_region 9 with fail
              rw [HW5.out]
              go_upto_region 17 with (go_at_call 12; refine (HES.out _).mono ?_; rintro e w7 ⟨rfl, h6⟩; subst h6)
              rw [HW8.out]
              go_wp2_with (at_builtin; refine push_node rfl _ _ rfl w.heap.size (.slice NA (k + 1) ncap) (nsOf ks) (kidN ([117], ([] : List UInt8))) (.slice none 0 0) 0 0 ⟨#[107]⟩ ⟨#[117]⟩ ⟨#[]⟩ rfl rfl rfl rfl rfl _ rfl O8.out HU8.out rfl HN1.out HB8.out ?_)
              intro v9 w9 o9 b9 k9
              have O9 : Hid (OwnN w.heap.size w9 v9 (nsOf (ks ++ [([117], ([] : List UInt8))]))) := by unfold Hid; rw [nsOf_snoc]; exact o9
              have B9 : Hid (Below w.heap.size w w9) := (B5.out.trans (B8.out.mono B5.out.size)).trans b9
              clear o9 b9 k9
              go_wp2_with fail
              go_roundw
              case rel => exact ⟨k + 1, _, _, ks ++ [([117], ([] : List UInt8))], by omega, by omega, by go_num, rfl, rfl, HKLN, HKS, O9, HKC, HSZN.out, B9⟩
              case measure => simp [intOf]; omega
            · have hrr : wrap64 ((IntKind.u64.wrap z).tmod 3) = 2 := hr
              clear hr
              have hOK : OkK ([118], ([] : List UInt8)) ∧ ([118], ([] : List UInt8)).2.length ≤ 100 := ⟨⟨.inr (.inr rfl), Cn.valid_u.2.2⟩, Nat.zero_le _⟩
              have HKC : Hid (o ++ ⟨#[60, 107]⟩ ++ ⟨#[32, 120, 109, 108, 110, 115, 61, 39]⟩ ++ ⟨#[118]⟩ ++ ⟨#[39]⟩ ++ ⟨#[47, 62]⟩ = bts (hdF ++ (ks ++ [([118], ([] : List UInt8))]).flatMap kidT)) := by
                have h1 := (kid_cat (hdF ++ ks.flatMap kidT) [118] ([] : List UInt8) o hoo.out).2.1 (by decide) rfl
                unfold Hid
                rw [List.flatMap_append]
                simp only [List.flatMap_cons, List.flatMap_nil, List.append_nil]
                rw [← List.append_assoc, ← h1]
              have HSZN : Hid ((o ++ ⟨#[60, 107]⟩ ++ ⟨#[32, 120, 109, 108, 110, 115, 61, 39]⟩ ++ ⟨#[118]⟩ ++ ⟨#[39]⟩ ++ ⟨#[47, 62]⟩).size ≤ 100 + 1000 * (k + 1)) := by
                have h1 := kidT_len hOK.1 hOK.2
                have h2 : o.size = (hdF ++ ks.flatMap kidT).length := by rw [hoo.out, bts_size]
                unfold Hid
                rw [HKC.out, bts_size, List.flatMap_append, ← List.append_assoc, List.length_append, ← h2]
                simp only [List.flatMap_cons, List.flatMap_nil, List.append_nil]
                omega
              have HKS : Hid (∀ p ∈ ks ++ [([118], ([] : List UInt8))], OkK p ∧ p.2.length ≤ 100) := fun p hp => by
                rcases List.mem_append.1 hp with hp | hp
                · exact hks.out p hp
                · rw [List.mem_singleton] at hp; rw [hp]; exact hOK
              have HKLN : Hid ((ks ++ [([118], ([] : List UInt8))]).length = k + 1) := by unfold Hid; rw [List.length_append, hkl.out]; rfl
              obtain ⟨W8, hW8⟩ : ∃ W, (W5.alloc (.cells #[.int .i64 0, .int .i64 0, .string ⟨#[107]⟩, .string ⟨#[118]⟩, .slice none 0 0, .string ⟨#[]⟩] 32)) = W := ⟨_, rfl⟩
              have B8 : Hid (Below W5.heap.size W5 W8) := by rw [← hW8]; exact ((Below.refl W5.heap.size W5).alloc (Nat.le_refl _) (.cells #[.int .i64 0, .int .i64 0, .string ⟨#[107]⟩, .string ⟨#[118]⟩, .slice none 0 0, .string ⟨#[]⟩] 32))
              have hk8 : Bk W8 W5.heap.size 32 #[.int .i64 0, .int .i64 0, .string ⟨#[107]⟩, .string ⟨#[118]⟩, .slice none 0 0, .string ⟨#[]⟩] := by rw [← hW8]; exact Bk.new W5 _ _
              have x0 : W8.cell? ⟨W5.heap.size, 0, none⟩ = some (.int .i64 0) := hk8.cell 0
              have x1 : W8.cell? ⟨W5.heap.size, 1, none⟩ = some (.int .i64 0) := hk8.cell 1
              have x2 : W8.cell? ⟨W5.heap.size, 2, none⟩ = some (.string ⟨#[107]⟩) := hk8.cell 2
              have x3 : W8.cell? ⟨W5.heap.size, 3, none⟩ = some (.string ⟨#[118]⟩) := hk8.cell 3
              have x4 : W8.cell? ⟨W5.heap.size, 4, none⟩ = some (.slice none 0 0) := hk8.cell 4
              have x5 : W8.cell? ⟨W5.heap.size, 5, none⟩ = some (.string ⟨#[]⟩) := hk8.cell 5
              have O8 : Hid (OwnN w.heap.size W8 (.slice NA (k + 1) ncap) (nsOf ks)) := O5.out.below B8.out
              have hn1 : (nsOf ks).length ≤ 1000000000 := by rw [nsOf_len, hkl.out]; omega
              have HN1 := Lib.hid hn1
              have HB8 : Hid (w.heap.size ≤ W8.heap.size) := Nat.le_trans B5.out.size B8.out.size
              have HU8 : Hid (RowA W8 (.slice none 0 0) (kidN ([118], ([] : List UInt8))).2.2.2.2.1) := RowA.none _
              have HW8 := Lib.hid hW8
              clear hOK hn1 hem hW8 hk8
              go_upto_region 9 with fail
              rw [HW5.out]
              go_upto_region 17 with (go_at_call 12; refine (HES.out _).mono ?_; rintro e w7 ⟨rfl, h6⟩; subst h6)
              rw [HW8.out]
              go_wp2_with (at_builtin; refine push_node rfl _ _ rfl w.heap.size (.slice NA (k + 1) ncap) (nsOf ks) (kidN ([118], ([] : List UInt8))) (.slice none 0 0) 0 0 ⟨#[107]⟩ ⟨#[118]⟩ ⟨#[]⟩ rfl rfl rfl rfl rfl _ rfl O8.out HU8.out rfl HN1.out HB8.out ?_)
              intro v9 w9 o9 b9 k9
              have O9 : Hid (OwnN w.heap.size w9 v9 (nsOf (ks ++ [([118], ([] : List UInt8))]))) := by unfold Hid; rw [nsOf_snoc]; exact o9
              have B9 : Hid (Below w.heap.size w w9) := (B5.out.trans (B8.out.mono B5.out.size)).trans b9
              clear o9 b9 k9
              go_wp2_with fail
              go_roundw
              case rel => exact ⟨k + 1, _, _, ks ++ [([118], ([] : List UInt8))], by omega, by omega, by go_num, rfl, rfl, HKLN, HKS, O9, HKC, HSZN.out, B9⟩
              case measure => simp [intOf]; omega
        · have gst : (decide ((k : Int) < (n : Int)) && decide ((k : Int) < 20)) = false := by
            rw [Bool.and_eq_false_iff, decide_eq_false_iff_not, decide_eq_false_iff_not]; omega
          have hfr : Hid (writeV (nsOf ks) = .tuple #[.string (bts (formsT ks)), .int .i64 0]) := writeV_yes (forms_right (by rw [hkl.out]; omega) (fun p hp => (hks.out p hp).1)) (canon_forms (fun p hp => (hks.out p hp).1))
          have HW := Lib.hid (HWR.out _ ks wr hb.out ho.out (by rw [hkl.out]; omega) hks.out)
          rw [hfr.out] at HW
          have hos2 : o.size ≤ 30000 := by omega
          have hcase : k = 0 ∨ 0 < k := by omega
          rcases hcase with h0 | h0
          · subst h0
            have hks0 : ks = [] := List.eq_nil_of_length_eq_zero hkl.out
            have HFT : Hid (bts (formsT ks) = ⟨#[60, 63, 120, 109, 108, 32, 118, 101, 114, 115, 105, 111, 110, 61, 39, 49, 46, 48, 39, 32, 101, 110, 99, 111, 100, 105, 110, 103, 61, 39, 85, 84, 70, 45, 56, 39, 63, 62, 10, 60, 114, 47, 62]⟩) := by unfold Hid; rw [hks0]; rfl
            rw [HFT.out] at HW
            clear hks0 hem
            by_cases hn0 : (0 : Int) < (n : Int)
            · exact absurd ⟨by omega, by omega⟩ hgo
            · clear hgo gst
              go_wp2_with (first | (go_at_call 7; refine HW.out.mono ?_; rintro e w2 ⟨rfl, b2⟩) | (go_at_call 6; refine (HAW.out _ (hb.out.trans (b2.mono hb.out.size))).mono ?_; rintro e w3 ⟨rfl, b3⟩))
              go_ret
              exact ⟨rfl, (hb.out.trans (b2.mono hb.out.size)).trans (b3.mono (hb.out.trans (b2.mono hb.out.size)).size)⟩
          · have hksn : ks ≠ [] := fun e => by have := hkl.out; rw [e] at this; simp at this; omega
            have HFT : Hid (o ++ ⟨#[60, 47, 114, 62]⟩ = bts (formsT ks)) := by
              unfold Hid formsT
              rw [hoo.out, if_neg hksn]
              exact forms_cat _ [60, 47, 114, 62]
            have gk1 : (((k + 1 : Nat) : Int) == 1) = false := by simp; omega
            have gk2 : ((k : Int) + 1 == 1) = false := by simp; omega
            have hft := HFT.out
            obtain ⟨F, hF⟩ : ∃ F, bts (formsT ks) = F := ⟨_, rfl⟩
            rw [hF] at hft HW
            have hss := same_self F
            clear hksn hF hem
            by_cases hkn : k < n
            · have hk20e : k = 20 := by omega
              subst hk20e
              have g20 : decide ((20 : Int) < 20) = false := by decide
              clear hgo gst
              go_wp2_with (first | (go_at_call 7; refine HW.out.mono ?_; rintro e w2 ⟨rfl, b2⟩) | (go_at_call 6; refine (HAW.out _ (hb.out.trans (b2.mono hb.out.size))).mono ?_; rintro e w3 ⟨rfl, b3⟩))
              go_ret
              exact ⟨by simp, (hb.out.trans (b2.mono hb.out.size)).trans (b3.mono (hb.out.trans (b2.mono hb.out.size)).size)⟩
            · clear hgo gst
              go_wp2_with (first | (go_at_call 7; refine HW.out.mono ?_; rintro e w2 ⟨rfl, b2⟩) | (go_at_call 6; refine (HAW.out _ (hb.out.trans (b2.mono hb.out.size))).mono ?_; rintro e w3 ⟨rfl, b3⟩))
              go_ret
              exact ⟨by simp, (hb.out.trans (b2.mono hb.out.size)).trans (b3.mono (hb.out.trans (b2.mono hb.out.size)).size)⟩
  · have g1 : decide ((s.size : Int) > 100) = true := decide_eq_true (by omega)
    go_enter Tryd.func5, Tryd.ntmps5
    go_wp2_with (go_at_call 6; refine (HAW.out _ (Below.refl _ _)).mono ?_; rintro e w2 ⟨rfl, b2⟩)
    go_ret
    exact ⟨rfl, b2⟩
end Go.Proofs.YtbkfmbkamocllaaDoor
