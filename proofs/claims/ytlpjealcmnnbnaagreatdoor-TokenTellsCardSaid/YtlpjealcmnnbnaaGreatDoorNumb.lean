/-
  strconv.ParseUint at short numerals, and escape.numbered.
-/
import Derived.Test.YtlpjealcmnnbnaaGreatDoorParse
import Derived.Test.YtlpjealcmnnbnaaGreatDoorVal
import Derived.Test.YtlpjealcmnnbnaaGreatDoorEntP
import Derived.Test.YtlpjealcmnnbnaaGreatDoorBld
namespace Go.Proofs.YtlpjealcmnnbnaaGreatDoor
open Go.RowKit Tx

/-- The library's variable strconv.ErrSyntax holds an error, or none. -/
def ErrS (w : World) : Prop := ∃ ev, w.cell? ⟨3, 0, none⟩ = some ev ∧ (ev = .nilIface ∨ ∃ te pe, ev = .iface te pe)
theorem ErrS.below {w w' : World} (h : ErrS w) (hb : Below w.heap.size w w') : ErrS w' := by
  obtain ⟨ev, h1, h2⟩ := h
  have hlt : 3 < w.heap.size := by
    rcases Nat.lt_or_ge 3 w.heap.size with h | h
    · exact h
    · unfold World.cell? at h1; rw [Array.getElem?_eq_none h] at h1; cases h1
  exact ⟨ev, by rw [hb.cell (p := ⟨3, 0, none⟩) hlt]; exact h1, h2⟩
def numO (base : Nat) (l : List UInt8) : Option Nat := if l = [] then none else numF base 0 l
theorem num_numO {base most : Nat} {l : List UInt8} (h : l.length ≤ most) : num base most l = numO base l := by
  unfold num numO
  by_cases h0 : l = []
  · rw [if_pos (.inl h0), if_pos h0]
  · rw [if_neg (by rintro (h1 | h1); exact h0 h1; omega), if_neg h0]
theorem qparse_any (s : ByteArray) (base : Nat) (w : World) (h7 : s.size ≤ 7) (hb : base = 10 ∨ base = 16) :
    Calls Tryz.prog 91 #[.string s, .int .i64 base, .int .i64 32] w fun e w' => e = .returned (parsed (numO base s.data.toList)) ∧ Below w.heap.size w w' := by
  by_cases h0 : s.size = 0
  · have hl : s.data.toList = [] := List.eq_nil_of_length_eq_zero (by rw [← Lib.size_eq]; exact h0)
    obtain rfl : s = ⟨#[]⟩ := bytes_of hl
    refine (Tryz.internal_strconv_ParseUint_empty base 32 w).mono ?_
    rintro e w' ⟨h1, rfl⟩
    exact ⟨h1, Below.refl _ _⟩
  · have : numO base s.data.toList = numF base 0 s.data.toList := by
      unfold numO
      rw [if_neg]
      intro e
      apply h0
      rw [Lib.size_eq, e]; rfl
    rw [this]
    exact iparse_any s base w h0 h7 hb
set_option maxHeartbeats 1000000 in
set_option maxRecDepth 100000 in
theorem pparse_some (s : ByteArray) (base v : Nat) (w : World) (h7 : s.size ≤ 7) (hb : base = 10 ∨ base = 16) (h : numO base s.data.toList = some v) :
    Calls Tryz.prog 87 #[.string s, .int .i64 base, .int .i64 32] w fun e w' => e = .returned (.tuple #[.int .u64 v, .nilIface]) ∧ Below w.heap.size w w' := by
  have HQ := qparse_any s base w h7 hb
  rw [h, parsed_some] at HQ
  have HQ := Lib.hid HQ
  clear h
  go_enter Tryz.func87, Tryz.ntmps87
  go_wp2_with (go_at_call 91; refine HQ.out.mono ?_; rintro e w2 ⟨rfl, b2⟩)
  go_ret2
  exact ⟨rfl, b2⟩
set_option maxHeartbeats 1000000 in
set_option maxRecDepth 100000 in
theorem pparse_none (s : ByteArray) (base : Nat) (w : World) (hE : ErrS w) (h7 : s.size ≤ 7) (hb : base = 10 ∨ base = 16) (h : numO base s.data.toList = none) :
    Calls Tryz.prog 87 #[.string s, .int .i64 base, .int .i64 32] w fun e w' => (∃ N : Nat, e = .returned (.tuple #[.int .u64 0, .iface 144 (.pointer (some ⟨N, 0, none⟩))])) ∧ Below w.heap.size w w' := by
  have HQ := qparse_any s base w h7 hb
  rw [h, parsed_none] at HQ
  have HQ := Lib.hid HQ
  clear h
  go_enter Tryz.func87, Tryz.ntmps87
  go_wp2_with (go_at_call 91; refine HQ.out.mono ?_; rintro e w2 ⟨rfl, b2⟩)
  obtain ⟨ev, h1, h2⟩ := hE.below b2
  refine (Tryz.strconv_toError_syntax _ s base 32 ev w2 (by omega) h1 h2).mono ?_
  rintro e w3 ⟨N, rfl, _, _, b3⟩
  go_wp2_with fail
  go_ret2
  exact ⟨⟨N, rfl⟩, b2.trans (b3.mono b2.size)⟩

def numbV : Option Nat → Value
  | some v => .tuple #[.int .i32 v, .bool true]
  | none => .tuple #[.int .i32 0, .bool false]
theorem numbV_some (v : Nat) : numbV (some v) = .tuple #[.int .i32 v, .bool true] := rfl
theorem numbV_none : numbV none = .tuple #[.int .i32 0, .bool false] := rfl
theorem valid_enc {v : Nat} (h : sane v) : valid (enc v) = okc v := by
  cases hk : okc v with
  | true => exact valid_some (ch_enc h hk)
  | false => exact valid_none (ch_enc_not h hk)
set_option maxHeartbeats 2000000 in
set_option maxRecDepth 100000 in
theorem numbered_any (s : ByteArray) (base most : Nat) (w : World) (hT : Tabs w) (hE : ErrS w) (hb : base = 10 ∨ base = 16) (hm : most ≤ 7) :
    Calls Tryz.prog 77 #[.string s, .int .i64 base, .int .i64 most] w fun e w' => e = .returned (numbV (Tx.keep (num base most s.data.toList))) ∧ Below w.heap.size w w' := by
  have hsz := Lib.hid (Lib.size_eq s)
  by_cases hlong : most < s.size
  · have hn : num base most s.data.toList = none := by
      unfold num
      rw [if_pos (.inr (by rw [← hsz.out]; exact hlong))]
    rw [hn, keep_none, numbV_none]
    clear hn
    go_enter Tryz.func77, Tryz.ntmps77
    go_wp2_with fail
    go_ret2
    exact ⟨rfl, Below.refl _ _⟩
  have h7 : s.size ≤ 7 := by omega
  have hno := num_numO (base := base) (most := most) (l := s.data.toList) (by rw [← hsz.out]; omega)
  rcases keep_cases (num base most s.data.toList) with ⟨ho, hk⟩ | ⟨v, ho, hg, hk⟩ | ⟨v, ho, hg, hk⟩
  · rw [hk, numbV_none]
    have HP := Lib.hid (pparse_none s base w hE h7 hb (by rw [← hno]; exact ho))
    clear ho hk hno
    go_enter Tryz.func77, Tryz.ntmps77
    go_wp2_with (go_at_call 87; refine HP.out.mono ?_; rintro e w2 ⟨⟨N, rfl⟩, b2⟩)
    go_ret2
    exact ⟨rfl, b2⟩
  · rw [hk, numbV_none]
    have hv := num_lt (by omega) (by omega) hm ho
    have hp := pparse_some s base v w h7 hb (by rw [← hno]; exact ho)
    have hvr := fun (W : World) => Tryz.utf8_ValidRune (v : Int) W
    obtain ⟨z, hz⟩ : ∃ z : Int, (v : Int) = z := ⟨_, rfl⟩
    have z0 : 0 ≤ z := by omega
    have z1 : z < 268435456 := by omega
    by_cases hsane : sane v
    · have hok : okc v = false := by
        unfold good at hg
        rw [decide_eq_true hsane, Bool.true_and] at hg
        exact hg
      have hvt : Lib.validRune z = true := by
        unfold sane at hsane; unfold Lib.validRune; exact decide_eq_true (by omega)
      have hve := valid_enc hsane
      rw [hok] at hve
      obtain ⟨E, hEn⟩ : ∃ E, Utf8.encode (v : Int) = E := ⟨_, rfl⟩
      have hEl := enc_model v
      rw [hEn] at hEl
      have hes : E.size ≤ 4 := by rw [Lib.size_eq, hEl]; exact enc_len.2
      have HV := Lib.hid (fun (W : World) (h : Tabs W) => by have := valid_any E W h (by omega); rw [hEl, hve] at this; exact this)
      rw [hz] at hp hvr hEn
      rw [hvt] at hvr
      have HP := Lib.hid hp
      have HR := Lib.hid hvr
      clear hsane hok hvt hve hEl hp hvr hz ho hk hno hv hg
      go_enter Tryz.func77, Tryz.ntmps77
      go_wp2_with (go_at_call 87; refine HP.out.mono ?_; rintro e w2 ⟨rfl, b2⟩)
      refine (HR.out _).mono ?_
      rintro e w3 ⟨rfl, rfl⟩
      go_wp2_with fail
      refine (HV.out _ (hT.below b2)).mono ?_
      rintro e w4 ⟨rfl, b4⟩
      go_wp2_with fail
      go_ret2
      exact ⟨rfl, b2.trans (b4.mono b2.size)⟩
    · have hvt : Lib.validRune z = false := by
        unfold sane at hsane; unfold Lib.validRune; exact decide_eq_false (by omega)
      rw [hz] at hp hvr
      rw [hvt] at hvr
      have HP := Lib.hid hp
      have HR := Lib.hid hvr
      clear hsane hvt hp hvr hz ho hk hno hv hg
      go_enter Tryz.func77, Tryz.ntmps77
      go_wp2_with (go_at_call 87; refine HP.out.mono ?_; rintro e w2 ⟨rfl, b2⟩)
      refine (HR.out _).mono ?_
      rintro e w3 ⟨rfl, rfl⟩
      go_wp2_with fail
      go_ret2
      exact ⟨rfl, b2⟩
  · rw [hk, numbV_some]
    have hsane := (good_le hg).1
    have hv := num_lt (by omega) (by omega) hm ho
    have hp := pparse_some s base v w h7 hb (by rw [← hno]; exact ho)
    have hvr := fun (W : World) => Tryz.utf8_ValidRune (v : Int) W
    obtain ⟨z, hz⟩ : ∃ z : Int, (v : Int) = z := ⟨_, rfl⟩
    have z0 : 0 ≤ z := by omega
    have z1 : z < 268435456 := by omega
    have hok : okc v = true := by
      unfold good at hg
      rw [decide_eq_true hsane, Bool.true_and] at hg
      exact hg
    have hvt : Lib.validRune z = true := by
      unfold sane at hsane; unfold Lib.validRune; exact decide_eq_true (by omega)
    have hve := valid_enc hsane
    rw [hok] at hve
    obtain ⟨E, hEn⟩ : ∃ E, Utf8.encode (v : Int) = E := ⟨_, rfl⟩
    have hEl := enc_model v
    rw [hEn] at hEl
    have hes : E.size ≤ 4 := by rw [Lib.size_eq, hEl]; exact enc_len.2
    have HV := Lib.hid (fun (W : World) (h : Tabs W) => by have := valid_any E W h (by omega); rw [hEl, hve] at this; exact this)
    rw [hz] at hp hvr hEn ⊢
    rw [hvt] at hvr
    have HP := Lib.hid hp
    have HR := Lib.hid hvr
    clear hsane hok hvt hve hEl hp hvr hz ho hk hno hv hg
    go_enter Tryz.func77, Tryz.ntmps77
    go_wp2_with (go_at_call 87; refine HP.out.mono ?_; rintro e w2 ⟨rfl, b2⟩)
    refine (HR.out _).mono ?_
    rintro e w3 ⟨rfl, rfl⟩
    go_wp2_with fail
    refine (HV.out _ (hT.below b2)).mono ?_
    rintro e w4 ⟨rfl, b4⟩
    go_wp2_with fail
    go_ret2
    exact ⟨rfl, b2.trans (b4.mono b2.size)⟩
end Go.Proofs.YtlpjealcmnnbnaaGreatDoor
