import Derived.Test.YtfbdnaclkfmiaaaGreatDoorG11
import Derived.Test.YtfbdnaclkfmiaaaGreatDoorG03
import Derived.Test.YtfbdnaclkfmiaaaGreatDoorG16
import Derived.Test.YtfbdnaclkfmiaaaGreatDoorG15
section
/- what is reached of it -/
namespace Go.Proofs.YtfbdnaclkfmiaaaGreatDoor
open Go.RowKit Tx
def RRunes (B : Nat) (w : World) (l : List UInt8) (e : Ending) (w' : World) : Prop := ∃ v, e = .returned v ∧ Owned B w' v (runes l) ∧ Below B w w'
set_option maxHeartbeats 1000000 in
theorem rrunes_any (s : ByteArray) (w : World) (hs : s.size < 10000000000000) :
    Calls Tryz.prog 49 #[.string s] w (RRunes w.heap.size w s.data.toList) := by
  obtain ⟨i0, hi, hz0, hz1, hz2⟩ := info_parts infoInt
  have hsz := Lib.hid (Lib.size_eq s)
  have HV := Lib.hid (rvalid_any s w hs)
  cases hch : ch s.data.toList with
  | none =>
    have hfin : RRunes w.heap.size w s.data.toList (.returned (.slice none 0 0)) w := ⟨_, rfl, by rw [runes_none hch]; exact Owned.nil _ _, Below.refl _ _⟩
    rw [valid_none hch] at HV
    have HF := Lib.hid hfin
    clear hch hfin
    go_enter Tryz.func49, Tryz.ntmps49
    go_wp2_with (go_at_call 48; refine HV.out.mono ?_; rintro e w' ⟨rfl, rfl⟩)
    go_ret
    exact HF.out
  | some all =>
    rw [valid_some hch] at HV
    have HCH := Lib.hid hch
    clear hch
    go_enter Tryz.func49, Tryz.ntmps49
    go_wp2_with (go_at_call 48; refine HV.out.mono ?_; rintro e w' ⟨rfl, rfl⟩)
    go_loopw [3, 4] (fun v at_ wr => ∃ (k : Nat) (x : List Nat), k ≤ s.size ∧ at_ = .int .i64 k ∧ x.length ≤ k ∧ At s.data.toList k x ∧ Owned w.heap.size wr v x ∧ Below w.heap.size w wr) (fun _ at_ _ => s.size - (intOf at_).toNat)
    case atStart => exact ⟨0, [], Nat.zero_le _, rfl, Nat.le_refl _, At.start _, Owned.nil _ _, Below.refl _ _⟩
    case round =>
      obtain ⟨k, x, hk, rfl, hxk, hat, hown, hb⟩ := hrel
      have hsw := hb.size
      by_cases hlt : k < s.size
      · have hlt' : k < s.data.toList.length := by rw [← hsz.out]; exact hlt
        have hle := nx_le (drop_ne hlt')
        have hru := nx_rune (s.data.toList.drop k)
        rw [List.length_drop, ← hsz.out] at hle
        have HD := Lib.hid (next_any s k wr hs hlt)
        obtain ⟨c, n, hcn⟩ : ∃ c n, Hid (nx (s.data.toList.drop k) = (c, n)) := ⟨_, _, Lib.hid rfl⟩
        have hD : Hid (∀ e w', Nexted wr (s.data.toList.drop k) e w' → e = .returned (.tuple #[.int .i64 c, .int .i64 n]) ∧ wr = w') := fun e w' ⟨h1, h2⟩ => ⟨by rw [h1, hcn.out], h2⟩
        rw [hcn.out] at hle hru
        by_cases hn : n = 0
        · exfalso
          have := hat.bad hlt' (by rw [hcn.out]; exact hn)
          rw [HCH.out] at this
          cases this
        · have hat' := hat.next hlt' (by rw [hcn.out]; exact hn)
          rw [hcn.out] at hat'
          go_wp2_with (first | (go_at_call 100; refine HD.out.mono ?_; intro e w' hd; obtain ⟨rfl, rfl⟩ := hD.out _ _ hd) | (at_builtin; refine wpList_append_own _ rfl _ _ 88 rfl w.heap.size 3 i0 (.int .i64 0) 1 8 Tryz.underlying88 hi hz0 hz1 hz2 rfl (by decide) _ _ _ rfl (World.ownsRow.alloc (show wr.ownsRow w.heap.size 3 1 _ x.length (ints x) from hown) _) ⟨wr.heap.size, 0, none⟩ 1 1 [.int .i64 (c : Nat)] rfl rfl ?c1 ?c2 ?c3 ?c4 ?c5 ?_))
          case c1 =>
            intro j u hj
            match j, hj with
            | 0, hj => simp at hj; subst hj; simp [Addr.add]
          case c2 => intro u hu; simp at hu; subst hu; rfl
          case c3 => unfold maxLen; omega
          case c4 => omega
          case c5 => simp; omega
          intro v' w1 hown' hgrow _
          have R := pushed_of hown hsw hown' hgrow
          clear hown' hgrow
          go_wp2
          go_roundw
          case rel => exact ⟨k + n, x ++ [c], by omega, by go_num, by simp; omega, hat', R.1, hb.trans R.2⟩
          case measure => simp [intOf]; omega
      · have hke : k = s.data.toList.length := by rw [← hsz.out]; omega
        have hx : x = all := by
          have := At.stop (by rw [← hke]; exact hat)
          rw [HCH.out] at this
          exact (Option.some.inj this).symm
        have hr : runes s.data.toList = x := by rw [hx]; exact runes_some HCH.out
        have hown2 := hown
        rw [← hr] at hown2
        clear hke hx hr
        go_wp2_with fail
        go_ret
        exact ⟨_, rfl, hown2, hb⟩
end Go.Proofs.YtfbdnaclkfmiaaaGreatDoor
end
section
/- what is reached of it -/
namespace Go.Proofs.YtfbdnaclkfmiaaaGreatDoor
open Go.RowKit Tx
theorem low_zero_iff (x : List Nat) : (low x = 0) ↔ ∀ i, i < x.length → 32 ≤ x.getD i 0 := by
  rw [low_def]
  constructor
  · intro h i hi
    rcases Nat.lt_or_ge (x.getD i 0) 32 with hc | hc
    · exfalso
      have hm : x.getD i 0 ∈ x.filter (fun c => decide (c < 32)) := by
        rw [List.mem_filter]
        refine ⟨?_, by simpa using hc⟩
        rw [List.getD, List.getElem?_eq_getElem hi]
        exact List.getElem_mem hi
      rw [List.eq_nil_of_length_eq_zero h] at hm
      cases hm
    · exact hc
  · intro h
    refine List.length_eq_zero_iff.2 (List.filter_eq_nil_iff.2 fun a ha => ?_)
    obtain ⟨i, hi, rfl⟩ := List.getElem_of_mem ha
    have := h i hi
    rw [List.getD, List.getElem?_eq_getElem hi] at this
    simpa using this

set_option maxHeartbeats 1000000 in
/-- The document's Line. -/
theorem rline_any (s : ByteArray) (most : Int) (w : World) (hs : s.size < 10000000000000) :
    Calls Tryz.prog 23 #[.string s, .int .i64 most] w fun e w' => e = .returned (.bool (line s.data.toList most)) ∧ Below w.heap.size w w' := by
  have HR := Lib.hid (rrunes_any s w hs)
  have HV := Lib.hid (fun W => rvalid_any s W hs)
  obtain ⟨x, hx⟩ : ∃ x, runes s.data.toList = x := ⟨_, rfl⟩
  have hrl := runes_length s.data.toList
  rw [← Lib.size_eq, hx] at hrl
  have hR : Hid (∀ e w', RRunes w.heap.size w s.data.toList e w' → ∃ v, e = .returned v ∧ Owned w.heap.size w' v x ∧ Below w.heap.size w w') := fun e w' ⟨v, h1, h2, h3⟩ => ⟨v, h1, by rw [← hx]; exact h2, h3⟩
  obtain ⟨b, hb⟩ : ∃ b, valid s.data.toList = b := ⟨_, rfl⟩
  obtain ⟨r, hr⟩ : ∃ r, line s.data.toList most = r := ⟨_, rfl⟩
  have hlow : Hid (r = (b && (low x == 0) && decide ((x.length : Int) ≤ most))) := by
    unfold Hid
    rw [← hr, ← hb, ← hx]
    cases h : ch s.data.toList with
    | none => rw [line_none h, valid_none h]; rfl
    | some y => rw [line_some h, valid_some h, runes_some h]; rfl
  rw [hb] at HV
  rw [hr]
  clear hx hb hr
  go_enter Tryz.func23, Tryz.ntmps23
  go_wp2_with (go_at_call 49; refine HR.out.mono ?_; intro e w1 hd; obtain ⟨v, rfl, hown, hbw⟩ := hR.out _ _ hd)
  obtain ⟨A, cap, hv, hcell⟩ := hown.reads
  subst hv
  go_wp2_with fail
  go_loop [6] (fun i => ∃ k : Nat, k ≤ x.length ∧ i = .int .i64 k ∧ Hid (∀ j, j < k → 32 ≤ x.getD j 0)) (fun i => x.length - (intOf i).toNat)
  case atStart => exact ⟨0, Nat.zero_le _, rfl, fun j hj => absurd hj (by omega)⟩
  case round =>
    obtain ⟨k, hk, rfl, hall⟩ := hrel
    by_cases hlt : k < x.length
    · obtain ⟨ad, rfl, hlb, hc⟩ := hcell (by omega)
      have c1 := hc k hlt
      obtain ⟨p, hp⟩ : ∃ p, x.getD k 0 = p := ⟨_, rfl⟩
      rw [hp] at c1
      have HP := Lib.hid hp
      clear hp hc hcell
      by_cases hp32 : (p : Int) < 32
      · have hr : Hid (r = false) := by
          unfold Hid
          rw [hlow.out]
          have : (low x == 0) = false := by
            cases h : low x == 0 with
            | false => rfl
            | true =>
              have := (low_zero_iff x).1 (eq_of_beq h) k hlt
              rw [HP.out] at this
              omega
          rw [this]; simp
        go_wp2_with fail
        go_ret
        exact ⟨ret_bool hr.out.symm, hbw⟩
      · go_wp2_with fail
        go_round
        case rel =>
          refine ⟨k + 1, by omega, by go_num, fun j hj => ?_⟩
          rcases Nat.lt_or_ge j k with h | h
          · exact hall.out j h
          · rw [show j = k by omega, HP.out]; omega
        case measure => simp [intOf]; omega
    · have hke : k = x.length := by omega
      have hz : (low x == 0) = true := by
        rw [beq_iff_eq, low_zero_iff]
        rw [← hke]; exact hall.out
      have hr : Hid (r = (b && decide ((x.length : Int) ≤ most))) := by unfold Hid; rw [hlow.out, hz, Bool.and_true]
      clear hke hz hcell
      cases b with
      | false =>
        go_wp2_with (go_at_call 48; refine (HV.out _).mono ?_; rintro e w2 ⟨rfl, rfl⟩)
        go_ret
        exact ⟨ret_bool (by rw [hr.out]; rfl), hbw⟩
      | true =>
        go_wp2_with (go_at_call 48; refine (HV.out _).mono ?_; rintro e w2 ⟨rfl, rfl⟩)
        go_ret
        exact ⟨ret_bool (by rw [hr.out]; rfl), hbw⟩
end Go.Proofs.YtfbdnaclkfmiaaaGreatDoor
end
section
/- what is reached of it -/
namespace Go.Proofs.YtfbdnaclkfmiaaaGreatDoor
open Go.RowKit Tx
theorem seen_valid : ∀ l : List UInt8, (∀ c ∈ l, 32 ≤ c ∧ c < 127) → valid l = true
  | [], _ => valid_some ch_nil
  | c :: l, h => by
    have H : ∀ k : Fin 256, 32 ≤ UInt8.ofNat k.val → UInt8.ofNat k.val < 127 → valid [UInt8.ofNat k.val] = true := by decide +kernel
    obtain ⟨h1, h2⟩ := h c List.mem_cons_self
    have h3 := H ⟨c.toNat, c.toNat_lt⟩
    simp only [UInt8.ofNat_toNat] at h3
    exact (valid_append (a := [c]) (h3 h1 h2) (seen_valid l fun d hd => h d (List.mem_cons_of_mem _ hd))).1
theorem seen_chars : ∀ l : List UInt8, (∀ c ∈ l, 32 ≤ c ∧ c < 127) → ∃ x, ch l = some x ∧ x.length = l.length ∧ low x = 0
  | [], _ => ⟨[], ch_nil, rfl, low_nil⟩
  | c :: l, h => by
    have H : ∀ k : Fin 256, 32 ≤ UInt8.ofNat k.val → UInt8.ofNat k.val < 127 → ch [UInt8.ofNat k.val] = some [k.val] ∧ low [k.val] = 0 := by decide +kernel
    obtain ⟨h1, h2⟩ := h c List.mem_cons_self
    have h3 := H ⟨c.toNat, c.toNat_lt⟩
    simp only [UInt8.ofNat_toNat] at h3
    obtain ⟨h4, h5⟩ := h3 h1 h2
    obtain ⟨x, k1, k2, k3⟩ := seen_chars l fun d hd => h d (List.mem_cons_of_mem _ hd)
    refine ⟨c.toNat :: x, ?_, by rw [List.length_cons, List.length_cons, k2], ?_⟩
    · have := ch_app 1 [c] l [c.toNat] (Nat.le_refl _) h4
      rw [show c :: l = [c] ++ l from rfl, this, k1]
      rfl
    · rw [low_def] at h5 k3 ⊢
      rw [show c.toNat :: x = [c.toNat] ++ x from rfl, List.filter_append, List.length_append, h5, k3]
theorem seen_line {l : List UInt8} (h : ∀ c ∈ l, 32 ≤ c ∧ c < 127) {n : Int} (hn : (l.length : Int) ≤ n) : line l n = true := by
  obtain ⟨x, k1, k2, k3⟩ := seen_chars l h
  rw [line_some k1, k3, k2]
  simp [hn]
theorem seen_clean {l : List UInt8} (h : ∀ c ∈ l, 32 ≤ c ∧ c < 127) : clean l := fun c hc => by
  have h1 := (h c hc).1
  constructor <;> (intro e; subst e; revert h1; decide)
theorem flat_clean : ∀ {cs : List Nat}, (∀ c ∈ cs, sane c ∧ okc c = true ∧ 32 ≤ c) → clean (flat cs)
  | [], _ => fun c hc => by rw [flat_nil] at hc; cases hc
  | c :: t, h => by
    obtain ⟨h1, h2, h3⟩ := h c List.mem_cons_self
    have e : flat (c :: t) = enc c ++ flat t := by rw [show c :: t = [c] ++ t from rfl, flat_append, flat_one]
    rw [e]
    intro x hx
    rcases List.mem_append.1 hx with hx | hx
    · exact (enc_line h1 h2 h3).1 x hx
    · exact flat_clean (fun d hd => h d (List.mem_cons_of_mem _ hd)) x hx
theorem line_fine {l : List UInt8} {most : Int} (h : line l most = true) : valid l = true ∧ clean l := by
  obtain ⟨cs, h1, h2, h3⟩ := line_chars h
  exact ⟨valid_some h1, by rw [← h2]; exact flat_clean h3⟩
theorem one_sign (s : ByteArray) (k : Nat) (hk : k < s.size) : (s.extract k (k + 1)).data.toList = [s[k]] := by
  have h : k < s.data.toList.length := by rw [← Lib.size_eq]; exact hk
  rw [ByteArray.data_extract, Array.toList_extract, List.extract_eq_take_drop, List.drop_eq_getElem_cons h, Nat.add_sub_cancel_left]
  rfl
theorem seen_more {o : ByteArray} {s : ByteArray} {k : Nat} (hk : k < s.size) (ho : ∀ c ∈ o.data.toList, (32 : UInt8) ≤ c ∧ c < 127) (h1 : (32 : Int) ≤ s[k].toNat) (h2 : (s[k].toNat : Int) < 127) :
    ∀ c ∈ (o ++ s.extract k (k + 1)).data.toList, (32 : UInt8) ≤ c ∧ c < 127 := by
  intro c hc
  rw [ByteArray.data_append, Array.toList_append, one_sign s k hk] at hc
  rcases List.mem_append.1 hc with hc | hc
  · exact ho c hc
  · rw [List.mem_singleton] at hc
    subst hc
    constructor
    · rw [UInt8.le_iff_toNat_le]
      show 32 ≤ _
      omega
    · rw [UInt8.lt_iff_toNat_lt]
      show _ < 127
      omega
theorem more_size (o s : ByteArray) (k : Nat) (hk : k < s.size) : (o ++ s.extract k (k + 1)).size = o.size + 1 := by
  rw [Lib.size_eq, ByteArray.data_append, Array.toList_append, one_sign s k hk, List.length_append, ← Lib.size_eq]
  rfl
set_option maxHeartbeats 4000000 in
set_option maxRecDepth 100000 in
theorem playLineL_any (s : ByteArray) (most : Int) (w : World) (hs : s.size ≤ 1000000000) :
    Calls Tryz.prog 20 #[.string s, .int .i64 most] w fun e w' => (∃ v : ByteArray, e = .returned (.string v) ∧ valid v.data.toList = true ∧ clean v.data.toList ∧ v.size ≤ s.size ∧ (0 ≤ most → line v.data.toList most = true)) ∧ Below w.heap.size w w' := by
  have HL := Lib.hid (rline_any s most w (by omega))
  obtain ⟨b, hb⟩ : ∃ b, line s.data.toList most = b := ⟨_, rfl⟩
  have HB := Lib.hid hb
  rw [hb] at HL
  clear hb
  go_enter Tryz.func20, Tryz.ntmps20
  go_wp2_with fail
  refine HL.out.mono ?_
  rintro e w1 ⟨rfl, b1⟩
  have B1 := Lib.hid b1
  clear b1
  cases b
  · have HM0 : Hid (0 ≤ most → (((⟨#[]⟩ : ByteArray).size : Nat) : Int) ≤ most) := fun h => h
    have HS0 : Hid (∀ c ∈ (⟨#[]⟩ : ByteArray).data.toList, (32 : UInt8) ≤ c ∧ c < 127) := fun c hc => by cases hc
    go_wp2_with fail
    go_loopw [5, 6] (fun ov iv wr => ∃ (k : Nat) (o : ByteArray), ov = .string o ∧ iv = .int .i64 k ∧ k ≤ s.size ∧ o.size ≤ k ∧ Hid (0 ≤ most → (o.size : Int) ≤ most) ∧ Hid (∀ c ∈ o.data.toList, (32 : UInt8) ≤ c ∧ c < 127) ∧ wr = w1) (fun _ iv _ => s.size - (intOf iv).toNat)
    case atStart => exact ⟨0, _, rfl, rfl, Nat.zero_le _, Nat.zero_le _, HM0, HS0, rfl⟩
    case round =>
      obtain ⟨k, o, rfl, rfl, hk, ho, HM, HS, rfl⟩ := hrel
      have HLN : Hid (0 ≤ most → line o.data.toList most = true) := fun h => seen_line HS.out (by rw [← Lib.size_eq]; exact HM.out h)
      by_cases hlt : k < s.size
      · by_cases hm : (o.size : Int) < most
        · go_wp2_with fail
          · rename_i h1 h2
            have hsz := more_size o s k hlt
            have hnx := Lib.hid (seen_more hlt HS.out h1 h2)
            have hmx : Hid (0 ≤ most → (((o ++ s.extract k (k + 1)).size : Nat) : Int) ≤ most) := fun _ => by omega
            go_roundw
            case rel => exact ⟨k + 1, _, rfl, by go_num, by omega, by omega, hmx, hnx, trivial⟩
            case measure => simp [intOf]; omega
          all_goals
            go_roundw
            case rel => exact ⟨k + 1, _, rfl, by go_num, by omega, by omega, HM, HS, trivial⟩
            case measure => simp [intOf]; omega
        · go_wp2_with fail
          go_ret
          exact ⟨⟨_, rfl, seen_valid _ HS.out, seen_clean HS.out, by omega, HLN.out⟩, B1.out⟩
      · go_wp2_with fail
        go_ret
        exact ⟨⟨_, rfl, seen_valid _ HS.out, seen_clean HS.out, by omega, HLN.out⟩, B1.out⟩
  · obtain ⟨h1, h2⟩ := line_fine HB.out
    have H1 := Lib.hid h1
    have H2 := Lib.hid h2
    clear h1 h2
    go_wp2_with fail
    go_ret
    exact ⟨⟨_, rfl, H1.out, H2.out, Nat.le_refl _, fun _ => HB.out⟩, B1.out⟩
end Go.Proofs.YtfbdnaclkfmiaaaGreatDoor
end
