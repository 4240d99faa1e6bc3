/-
  THE DOCUMENT's OWN ANSWER for fold.Split: cardexref01.Split.
-/
import Derived.Test.YtjdpdkghfbaddaaDoorRefVal
import Derived.Test.YtjdpdkghfbaddaaDoorStrs
namespace Go.Proofs.YtjdpdkghfbaddaaDoor
open Go.RowKit Tx

/-- strings out of lists of bytes -/
def sts (l : List (List UInt8)) : List ByteArray := l.map fun x => ⟨x.toArray⟩
theorem sts_snoc (l : List (List UInt8)) (x : List UInt8) : sts (l ++ [x]) = sts l ++ [⟨x.toArray⟩] := by simp [sts]
theorem sts_len (l : List (List UInt8)) : (sts l).length = l.length := by simp [sts]
/-- how the document's loop stands: acc are told, the open piece goes from f to k -/
def SStand (sep : UInt8) (l : List UInt8) (acc : List (List UInt8)) (f k : Nat) (e : Bool) : Prop := f ≤ k ∧ k ≤ l.length ∧ acc.length ≤ f ∧ split1 sep l = acc ++ spl sep e ((l.drop f).take (k - f)) (l.drop k)
theorem SStand.start (sep : UInt8) (l : List UInt8) : SStand sep l [] 0 0 false := ⟨Nat.le_refl _, Nat.zero_le _, Nat.le_refl _, by simp [split1]⟩
theorem SStand.done {sep : UInt8} {l : List UInt8} {acc : List (List UInt8)} {f k : Nat} {e : Bool} (h : SStand sep l acc f k e) (hk : l.length ≤ k) : split1 sep l = acc ++ [l.drop f] := by
  obtain ⟨h1, h2, _, h3⟩ := h
  rw [h3, List.drop_eq_nil_of_le hk, spl_nil, List.take_of_length_le (by rw [List.length_drop]; omega)]
theorem SStand.cut {sep c : UInt8} {l : List UInt8} {acc : List (List UInt8)} {f k : Nat} {e : Bool} (h : SStand sep l acc f k e) (hc : l[k]? = some c) (hs : c = sep ∧ e = false) : SStand sep l (acc ++ [(l.drop f).take (k - f)]) (k + 1) (k + 1) (c == 92 && !e) := by
  obtain ⟨h1, h2, h4, h3⟩ := h
  obtain ⟨hk, he⟩ := List.getElem?_eq_some_iff.1 hc
  refine ⟨Nat.le_refl _, hk, by rw [List.length_append, List.length_singleton]; omega, ?_⟩
  rw [h3, List.drop_eq_getElem_cons hk, he, spl_cut _ _ hs]
  simp
theorem SStand.on {sep c : UInt8} {l : List UInt8} {acc : List (List UInt8)} {f k : Nat} {e : Bool} (h : SStand sep l acc f k e) (hc : l[k]? = some c) (hs : ¬ (c = sep ∧ e = false)) : SStand sep l acc f (k + 1) (c == 92 && !e) := by
  obtain ⟨h1, h2, h4, h3⟩ := h
  obtain ⟨hk, he⟩ := List.getElem?_eq_some_iff.1 hc
  refine ⟨by omega, hk, h4, ?_⟩
  have hd : l.drop k = c :: l.drop (k + 1) := by rw [List.drop_eq_getElem_cons hk, he]
  rw [h3, hd, spl_on _ _ hs, take_snoc hd h1]

set_option maxHeartbeats 2000000 in
set_option maxRecDepth 100000 in
theorem rsplit_any (s : ByteArray) (sep : UInt8) (w : World) (hs : s.size < 1000000000000) :
    Calls Tryd.prog 20 #[.string s, .int .u8 sep.toNat] w fun e w' => ∃ v, e = .returned v ∧ OwnT w.heap.size w' v (sts (split1 sep s.data.toList)) ∧ Below w.heap.size w w' := by
  have hsz := Lib.hid (Lib.size_eq s)
  obtain ⟨y, hy⟩ : ∃ y : Int, (sep.toNat : Int) = y := ⟨_, rfl⟩
  rw [hy]
  have HY := Lib.hid hy
  clear hy
  go_enter Tryd.func20, Tryd.ntmps20
  go_wp2_with fail
  go_loopw [5, 6, 7, 8] (fun lv fv bv at_ wr => ∃ (f k : Nat) (e : Bool) (acc : List (List UInt8)) (v : Value), lv = v ∧ fv = .int .i64 f ∧ bv = .bool e ∧ at_ = .int .i64 k ∧ f ≤ k ∧ k ≤ s.size ∧ Hid (SStand sep s.data.toList acc f k e) ∧ Hid (OwnT w.heap.size wr v (sts acc)) ∧ Below w.heap.size w wr) (fun _ _ _ at_ _ => s.size - (intOf at_).toNat)
  case atStart => exact ⟨0, 0, false, [], _, rfl, rfl, rfl, rfl, Nat.le_refl _, Nat.zero_le _, SStand.start _ _, OwnT.nil _ _, Below.refl _ _⟩
  case round =>
    obtain ⟨f, k, e, acc, lv, hlv, rfl, rfl, rfl, hfk, hk, hst, hown, hb⟩ := hrel
    have hlv2 := hlv.symm
    subst hlv2
    have hsw := hb.size
    have hal : (sts acc).length ≤ 1000000000000 := by rw [sts_len]; have := hst.out.2.2.1; omega
    have HAL := Lib.hid hal
    clear hal
    by_cases hlt : k < s.size
    · have hck := Lib.data_getElem? s k hlt
      obtain ⟨c, hc⟩ : ∃ c : UInt8, s[k]'hlt = c := ⟨_, rfl⟩
      rw [hc] at hck
      obtain ⟨z, hz⟩ : ∃ z : Int, ((s[k]'hlt).toNat : Int) = z := ⟨_, rfl⟩
      have hzc : (c.toNat : Int) = z := by rw [← hc]; exact hz
      by_cases hcut : c = sep ∧ e = false
      · have HS := Lib.hid (hst.out.cut hck hcut)
        obtain ⟨hcs, rfl⟩ := hcut
        have hzy : z = y := by rw [← hzc, hcs, HY.out]
        subst hzy
        have hpc : Hid (sts (acc ++ [(s.data.toList.drop f).take (k - f)]) = sts acc ++ [s.extract f k]) := by unfold Hid; rw [sts_snoc]; exact congrArg _ (congrArg (fun x => [x]) (bytes_of mid_cut).symm)
        by_cases h92 : c = 92
        · obtain rfl : z = 92 := by rw [← hzc, h92]; rfl
          have h9 : (c == 92 && !false) = true := by rw [h92]; rfl
          rw [h9] at HS
          clear hck hc hzc hcs h92 h9
          go_wp2_with (at_builtin; refine push_str rfl _ _ rfl w.heap.size lv (sts acc) (s.extract f k) wr rfl hown.out rfl HAL.out hsw ?_)
          intro v' w2 h1 h2
          have R1 := Lib.hid h1
          clear h1
          go_wp2_with fail
          go_roundw
          case rel => exact ⟨k + 1, k + 1, _, _, _, rfl, by go_num, rfl, by go_num, Nat.le_refl _, by omega, HS, by unfold Hid; rw [hpc.out]; exact R1.out, hb.trans h2⟩
          case measure => simp [intOf]; omega
        · have h0 : (z == 92) = false := byte_ne hzc h92
          have h9 : (c == 92 && !false) = false := by simp [h92]
          rw [h9] at HS
          clear hck hc hzc hcs h92 h9
          go_wp2_with (at_builtin; refine push_str rfl _ _ rfl w.heap.size lv (sts acc) (s.extract f k) wr rfl hown.out rfl HAL.out hsw ?_)
          intro v' w2 h1 h2
          have R1 := Lib.hid h1
          clear h1
          go_wp2_with fail
          go_roundw
          case rel => exact ⟨k + 1, k + 1, _, _, _, rfl, by go_num, rfl, by go_num, Nat.le_refl _, by omega, HS, by unfold Hid; rw [hpc.out]; exact R1.out, hb.trans h2⟩
          case measure => simp [intOf]; omega
      · have HS := Lib.hid (hst.out.on hck hcut)
        clear hck
        by_cases h92 : c = 92
        · obtain rfl : z = 92 := by rw [← hzc, h92]; rfl
          cases e with
          | false =>
            have hzy : ((92 : Int) == y) = false := by
              have : c ≠ sep := fun h => hcut ⟨h, rfl⟩
              rw [beq_eq_false_iff_ne]
              intro h
              exact this (UInt8.toNat_inj.1 (by have := HY.out; omega))
            have h9 : (c == 92 && !false) = true := by rw [h92]; rfl
            rw [h9] at HS
            clear hc hzc hcut h92 h9
            go_wp2_with fail
            go_roundw
            case rel => exact ⟨f, k + 1, _, acc, _, rfl, rfl, rfl, by go_num, by omega, by omega, HS, hown, hb⟩
            case measure => simp [intOf]; omega
          | true =>
            have h9 : (c == 92 && !true) = false := by simp
            rw [h9] at HS
            clear hc hzc hcut h92 h9
            rcases Bool.eq_false_or_eq_true ((92 : Int) == y) with h0 | h0
            all_goals
              go_wp2_with fail
              go_roundw
              case rel => exact ⟨f, k + 1, _, acc, _, rfl, rfl, rfl, by go_num, by omega, by omega, HS, hown, hb⟩
              case measure => simp [intOf]; omega
        · have h0 : (z == 92) = false := byte_ne hzc h92
          cases e with
          | false =>
            have hzy : (z == y) = false := by
              have : c ≠ sep := fun h => hcut ⟨h, rfl⟩
              rw [beq_eq_false_iff_ne]
              intro h
              exact this (UInt8.toNat_inj.1 (by have := HY.out; omega))
            have h9 : (c == 92 && !false) = false := by simp [h92]
            rw [h9] at HS
            clear hc hzc hcut h92 h9
            go_wp2_with fail
            go_roundw
            case rel => exact ⟨f, k + 1, _, acc, _, rfl, rfl, rfl, by go_num, by omega, by omega, HS, hown, hb⟩
            case measure => simp [intOf]; omega
          | true =>
            have h9 : (c == 92 && !true) = false := by simp
            rw [h9] at HS
            clear hc hzc hcut h92 h9
            rcases Bool.eq_false_or_eq_true (z == y) with h1 | h1
            all_goals
              go_wp2_with fail
              go_roundw
              case rel => exact ⟨f, k + 1, _, acc, _, rfl, rfl, rfl, by go_num, by omega, by omega, HS, hown, hb⟩
              case measure => simp [intOf]; omega
    · have hke : s.data.toList.length ≤ k := by rw [← hsz.out]; omega
      have hall := hst.out.done hke
      have HA : Hid (sts (split1 sep s.data.toList) = sts acc ++ [s.extract f s.size]) := by unfold Hid; rw [hall, sts_snoc]; exact congrArg _ (congrArg (fun x => [x]) (bytes_of (Lib.extract_to_end s f)).symm)
      clear hke hall
      go_wp2_with (at_builtin; refine push_str rfl _ _ rfl w.heap.size lv (sts acc) (s.extract f s.size) wr rfl hown.out rfl HAL.out hsw ?_)
      intro v' w2 h1 h2
      have R1 := Lib.hid h1
      clear h1
      go_wp2_with fail
      go_ret
      exact ⟨_, rfl, by rw [HA.out]; exact R1.out, hb.trans h2⟩
end Go.Proofs.YtjdpdkghfbaddaaDoor
