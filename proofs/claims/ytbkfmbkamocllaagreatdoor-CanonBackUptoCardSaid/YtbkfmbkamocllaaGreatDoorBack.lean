/-
  escape.Back: what it answers, at every string.
-/
import Derived.Test.YtbkfmbkamocllaaGreatDoorChar
import Derived.Test.YtbkfmbkamocllaaGreatDoorRune
import Derived.Test.YtbkfmbkamocllaaGreatDoorBld
namespace Go.Proofs.YtbkfmbkamocllaaGreatDoor
open Go.RowKit Tx

def strLen : Value → Nat
  | .string t => t.size
  | _ => 0
theorem strLen_string (t : ByteArray) : strLen (.string t) = t.size := rfl
/-- how the package's loop stands: out behind, t ahead -/
def Goes (l : List UInt8) (t : ByteArray) (out : List UInt8) : Prop := back l = (back t.data.toList).map (out ++ ·)
theorem Goes.start (s : ByteArray) : Goes s.data.toList s [] := by unfold Goes; cases back s.data.toList <;> rfl
theorem Goes.stop {l out : List UInt8} {t : ByteArray} (h : Goes l t out) (hn : ∀ c ∈ t.data.toList, c ≠ 60 ∧ c ≠ 38) : back l = some (out ++ t.data.toList) := by
  unfold Goes at h
  have := back_plains t.data.toList [] hn
  rw [List.append_nil, back_nil] at this
  rw [h, this]
  simp
theorem split_at {t : List UInt8} {i : Nat} {x : UInt8} (hx : t[i]? = some x) : t = t.take i ++ x :: t.drop (i + 1) := by
  obtain ⟨h1, h2⟩ := List.getElem?_eq_some_iff.1 hx
  rw [← h2, ← List.drop_eq_getElem_cons h1, List.take_append_drop]
theorem Goes.bad {l out : List UInt8} {t : ByteArray} {i : Nat} {x : UInt8} (h : Goes l t out) (hx : t.data.toList[i]? = some x) (hn : ∀ c ∈ t.data.toList.take i, c ≠ 60 ∧ c ≠ 38)
    (hb : x = 60 ∨ x = 38 ∧ (cutS (t.data.toList.drop (i + 1)) = none ∨ ∃ n r, cutS (t.data.toList.drop (i + 1)) = some (n, r) ∧ ent n = none)) : back l = none := by
  unfold Goes at h
  have hs := split_at hx
  have hz : back (x :: t.data.toList.drop (i + 1)) = none := by
    rcases hb with rfl | ⟨rfl, hb | ⟨n, r, h1, h2⟩⟩
    · exact back_lt _
    · exact back_amp_none hb
    · exact back_amp_bad h1 h2
  have h3 := back_plains (t.data.toList.take i) (x :: t.data.toList.drop (i + 1)) hn
  rw [← hs, hz] at h3
  rw [h, h3]
  rfl
theorem Goes.step {l out n r : List UInt8} {t : ByteArray} {i v : Nat} (h : Goes l t out) (hx : t.data.toList[i]? = some 38) (hn : ∀ c ∈ t.data.toList.take i, c ≠ 60 ∧ c ≠ 38)
    (hc : cutS (t.data.toList.drop (i + 1)) = some (n, r)) (hv : ent n = some v) : Goes l ⟨r.toArray⟩ (out ++ t.data.toList.take i ++ enc v) := by
  unfold Goes at h ⊢
  have hs := split_at hx
  have h3 := back_plains (t.data.toList.take i) (38 :: t.data.toList.drop (i + 1)) hn
  rw [← hs, back_amp_some hc hv] at h3
  rw [h, h3]
  show _ = (back r).map _
  cases back r <;> simp
theorem cutS_sizes : ∀ {l n r : List UInt8}, cutS l = some (n, r) → n.length + r.length + 1 = l.length
  | [], n, r, h => by cases h
  | c :: t, n, r, h => by
    unfold cutS at h
    split at h
    · cases h; simp
    · cases e : cutS t with
      | none => rw [e] at h; cases h
      | some p =>
        rw [e] at h
        obtain ⟨n', r'⟩ := p
        cases h
        have := cutS_sizes e
        simp; omega
theorem EntsS.keep {w w' : World} {g : Nat} {es : List (ByteArray × Nat)} (h : EntsS w g es) (hk : w'.heap[g]? = w.heap[g]?) : EntsS w' g es := fun j e he => by
  have := h j e he
  rw [World.cell?_of_block (w := w) (w' := w') (a := ⟨g, j * 2, none⟩) hk, World.cell?_of_block (w := w) (w' := w') (a := ⟨g, j * 2 + 1, none⟩) hk]
  exact this

set_option maxHeartbeats 4000000 in
set_option maxRecDepth 100000 in
theorem back_any (s : ByteArray) (w : World) (hT : Tabs w) (hE : ErrS w) (hs : s.size < 4000000000) :
    Calls Tryz.prog 72 #[.string s] w fun e w' => e = .returned (backV s.data.toList) ∧ Below w.heap.size w w' := by
  have HV := Lib.hid (valid_any s w hT (by omega))
  cases hv : valid s.data.toList with
  | false =>
    rw [hv] at HV
    have HF := Lib.hid (backV_utf hv)
    clear hv
    go_enter Tryz.func72, Tryz.ntmps72
    go_wp2_with (go_at_call 24; refine HV.out.mono ?_; rintro e w1 ⟨rfl, b1⟩)
    go_ret2
    exact ⟨by rw [HF.out]; rfl, b1⟩
  | true =>
    rw [hv] at HV
    have HNone := Lib.hid (fun h => backV_none hv h)
    have HSome := Lib.hid (fun x h => backV_some (x := x) hv h)
    have HSig := Lib.hid (fun (W : World) => signs_any W)
    have HTur := Lib.hid (fun (g : Nat) (W : World) h1 h2 => turned_any g 8 signsT W h1 h2 rfl (by omega) (by omega))
    have HIdx := Lib.hid (fun (t : ByteArray) (W : World) h => sindex_any t W h)
    have HCut := Lib.hid (fun (t : ByteArray) (W : World) h => scut_any t W h)
    clear hv
    go_enter Tryz.func72, Tryz.ntmps72
    go_wp2_with (go_at_call 24; refine HV.out.mono ?_; rintro e w1 ⟨rfl, b1⟩)
    refine (HSig.out _).mono ?_
    rintro e w2 ⟨rfl, he2, b2, hs2⟩
    go_wp2_with fail
    refine (HTur.out w1.heap.size w2 (by omega) he2).mono ?_
    rintro e w3 ⟨g, cap, rfl, he3, hg1, hg2, b3⟩
    have c3 : Hid (Below w.heap.size w w3) := (b1.trans (b2.mono b1.size)).trans (b3.mono (by have := b1.size; have := b2.size; omega))
    have t3 := Lib.hid (hT.below c3.out)
    have r3 := Lib.hid (hE.below c3.out)
    have HE3 := Lib.hid he3
    obtain ⟨b, hb⟩ : ∃ b, w3.heap.size = b := ⟨_, rfl⟩
    have hwb : w.heap.size ≤ b := by have := c3.out.size; omega
    have B0 := Bld.start w3
    have D0 : Below b w3 (w3.alloc (.cells #[.pointer none, .slice none 0 0] 85)) := by rw [← hb]; exact (Below.refl _ _).alloc (Nat.le_refl _) _
    rw [hb] at B0
    have BB := Lib.hid B0
    have DD := Lib.hid D0
    have HB := Lib.hid hb
    rw [hb] at hg2
    have HS0 := Lib.hid (Lib.size_eq s)
    have HLT : Hid (∀ W, Below b w3 W → Tabs W ∧ ErrS W ∧ EntsS W g turnedT) := fun W h =>
      ⟨t3.out.below (by rw [HB.out]; exact h), r3.out.below (by rw [HB.out]; exact h), HE3.out.keep (h.block g hg2)⟩
    clear he2 he3 b1 b2 b3 hs2 hg1 B0 D0
    go_wp2_with fail
    go_loopw [0] (fun tv wr => ∃ (t : ByteArray) (out : List UInt8), tv = .string t ∧ t.size ≤ s.size ∧ out.length + 2 * t.size ≤ 2 * s.size ∧ Hid (Goes s.data.toList t out) ∧ Bld b (b + 1) out wr ∧ Below b w3 wr) (fun tv _ => strLen tv)
    case atStart => exact ⟨s, [], rfl, Nat.le_refl _, by simp, Goes.start s, BB.out, DD.out⟩
    case round =>
      obtain ⟨t, out, rfl, hts, hout, hgo, hbld, hbw⟩ := hrel
      have hsw := hbw.size
      rw [HB.out] at hsw
      have hsz := Lib.hid (Lib.size_eq t)
      have HI := Lib.hid (fun (W : World) => HIdx.out t W (by omega))
      rcases index_amp t.data.toList with ⟨h1, h2⟩ | ⟨i, h1, h2, x, h3, h4⟩
      · rw [h1] at HI
        have HF := Lib.hid (HSome.out _ (hgo.out.stop h2))
        have HW := Lib.hid (fun (W : World) h => bld_string b (b + 1) out t W h (by omega))
        have HST := Lib.hid (fun (W : World) h => bld_String b (b + 1) (out ++ t.data.toList) W h)
        clear h1 h2
        go_wp2_with (go_at_call 96; refine (HI.out _).mono ?_; rintro e w4 ⟨rfl, b4⟩)
        refine (HW.out _ (hbld.below b4)).mono ?_
        rintro e w5 ⟨rfl, bl5, t5⟩
        go_wp2_with fail
        refine (HST.out _ bl5).mono ?_
        rintro e w6 ⟨rfl, b6⟩
        go_wp2_with fail
        go_ret2
        exact ⟨by rw [HF.out]; rfl, c3.out.trans (((hbw.trans (b4.mono (by omega))).trans (t5.below.trans b6)).mono hwb)⟩
      · rw [h1] at HI
        have hi : i < t.size := by rw [hsz.out]; exact (List.getElem?_eq_some_iff.1 h3).1
        have hxi : Hid ((t[i]'hi) = x) := by
          have := Lib.data_getElem? t i hi
          rw [h3] at this
          exact (Option.some.inj this).symm
        have hext := Lib.extract_to_end t (i + 1)
        obtain ⟨q, hq⟩ : ∃ q, t.extract (i + 1) t.size = q := ⟨_, rfl⟩
        rw [hq] at hext
        have hqs : q.size < 10000000000000 := by rw [← hq, ByteArray.size_extract]; omega
        have HC := fun (W : World) => HCut.out q W hqs
        obtain ⟨z, hz⟩ : ∃ z : Int, ((t[i]'hi).toNat : Int) = z := ⟨_, rfl⟩
        have hzx : z = x.toNat := by rw [← hz, hxi.out]
        cases hct : cutS (t.data.toList.drop (i + 1)) with
        | none =>
          rw [cutV_none (by rw [hext]; exact hct)] at HC
          have HCO := Lib.hid HC
          have HF := Lib.hid (HNone.out (hgo.out.bad h3 h2 (by rcases h4 with rfl | rfl; exact .inr ⟨rfl, .inl hct⟩; exact .inl rfl)))
          rcases h4 with rfl | rfl
          · obtain rfl : z = 38 := hzx
            clear h1 h2 h3 hct hext HC
            go_wp2_with (go_at_call 96; refine (HI.out _).mono ?_; rintro e w4 ⟨rfl, b4⟩)
            refine (HCO.out _).mono ?_
            rintro e w5 ⟨rfl, b5⟩
            go_wp2_with fail
            go_ret2
            exact ⟨by rw [HF.out]; rfl, c3.out.trans (((hbw.trans (b4.mono (by omega))).trans (b5.mono (by have := b4.size; omega))).mono hwb)⟩
          · obtain rfl : z = 60 := hzx
            clear h1 h2 h3 hct hext HC
            go_wp2_with (go_at_call 96; refine (HI.out _).mono ?_; rintro e w4 ⟨rfl, b4⟩)
            refine (HCO.out _).mono ?_
            rintro e w5 ⟨rfl, b5⟩
            go_wp2_with fail
            go_ret2
            exact ⟨by rw [HF.out]; rfl, c3.out.trans (((hbw.trans (b4.mono (by omega))).trans (b5.mono (by have := b4.size; omega))).mono hwb)⟩
        | some p =>
          obtain ⟨n, r⟩ := p
          rw [cutV_some (by rw [hext]; exact hct)] at HC
          have HCO := Lib.hid HC
          rcases h4 with rfl | rfl
          · obtain rfl : z = 38 := hzx
            have hsizes := cutS_sizes hct
            rw [List.length_drop, ← hsz.out] at hsizes
            have hch : ∀ W, Below b w3 W → b < W.heap.size → Calls Tryz.prog 98 #[.slice (some ⟨g, 0, none⟩) 8 cap, .string ⟨n.toArray⟩] W fun e w' => e = .returned (numbV (ent n)) ∧ Below W.heap.size W w' := fun W hW hWs =>
              character_any g cap ⟨n.toArray⟩ W (HLT.out W hW).1 (HLT.out W hW).2.1 (by omega) (HLT.out W hW).2.2
            have hbs := hbld.lt
            cases hen : ent n with
            | none =>
              rw [hen, numbV_none] at hch
              have HCH := Lib.hid hch
              have HF := Lib.hid (HNone.out (hgo.out.bad h3 h2 (.inr ⟨rfl, .inr ⟨n, r, hct, hen⟩⟩)))
              clear h1 h2 h3 hct hext HC hen hch
              go_wp2_with (go_at_call 96; refine (HI.out _).mono ?_; rintro e w4 ⟨rfl, b4⟩)
              refine (HCO.out _).mono ?_
              rintro e w5 ⟨rfl, b5⟩
              have d5 : Below b w3 w5 := (hbw.trans (b4.mono (by omega))).trans (b5.mono (by have := b4.size; omega))
              have l5 : b < w5.heap.size := by have := b4.size; have := b5.size; omega
              go_wp2_with fail
              refine (HCH.out _ d5 l5).mono ?_
              rintro e w6 ⟨rfl, b6⟩
              go_wp2_with fail
              go_ret2
              exact ⟨by rw [HF.out]; rfl, c3.out.trans ((d5.trans (b6.mono (by omega))).mono hwb)⟩
            | some v =>
              rw [hen, numbV_some] at hch
              obtain ⟨hsane, hv1⟩ := ent_good hen
              have HG := Lib.hid (hgo.out.step h3 h2 hct hen)
              have hencl := enc_len (n := v)
              have HE0 := Lib.hid (encodeRune_enc hsane)
              have hex0 : (t.extract 0 i).data.toList = t.data.toList.take i := by rw [mid_cut]; simp
              have hexs : (t.extract 0 i).size = i := by rw [ByteArray.size_extract]; omega
              have HW := Lib.hid (fun (W : World) h => bld_string b (b + 1) out (t.extract 0 i) W h (by omega))
              rw [hex0] at HW
              have HR := Lib.hid (fun (W : World) h => bld_rune b (b + 1) (out ++ t.data.toList.take i) (v : Int) W h (by omega) (by omega) (by rw [List.length_append, List.length_take]; omega))
              rw [HE0.out] at HR
              obtain ⟨y, hy⟩ : ∃ y : Int, (v : Int) = y := ⟨_, rfl⟩
              rw [hy] at hch HR
              have HCH := Lib.hid hch
              have hrs : (⟨r.toArray⟩ : ByteArray).size = r.length := rfl
              have hlen2 : (out ++ t.data.toList.take i ++ enc v).length + 2 * (⟨r.toArray⟩ : ByteArray).size ≤ 2 * s.size := by
                rw [hrs, List.length_append, List.length_append, List.length_take, ← hsz.out]
                omega
              have hr2 : (⟨r.toArray⟩ : ByteArray).size ≤ s.size := by rw [hrs]; omega
              have hr3 : (⟨r.toArray⟩ : ByteArray).size < t.size := by rw [hrs]; omega
              clear h1 h2 h3 hct hext HC hen hch hsane hv1 hy hencl hex0 hexs
              obtain ⟨rb, hrb⟩ : ∃ rb : ByteArray, ⟨r.toArray⟩ = rb := ⟨_, rfl⟩
              rw [hrb] at HCO HG hr2 hr3 hlen2
              clear hrb hrs
              go_wp2_with (go_at_call 96; refine (HI.out _).mono ?_; rintro e w4 ⟨rfl, b4⟩)
              refine (HCO.out _).mono ?_
              rintro e w5 ⟨rfl, b5⟩
              have bl5 := (hbld.below b4).below b5
              have d5 : Below b w3 w5 := (hbw.trans (b4.mono (by omega))).trans (b5.mono (by have := b4.size; omega))
              have l5 : b < w5.heap.size := by have := b4.size; have := b5.size; omega
              go_wp2_with fail
              refine (HCH.out _ d5 l5).mono ?_
              rintro e w6 ⟨rfl, b6⟩
              go_wp2_with fail
              refine (HW.out _ (bl5.below b6)).mono ?_
              rintro e w7 ⟨rfl, bl7, t7⟩
              go_wp2_with fail
              refine (HR.out _ bl7).mono ?_
              rintro e w8 ⟨⟨cnt, rfl⟩, bl8, t8⟩
              go_wp2_with fail
              go_roundw
              case rel => exact ⟨rb, _, rfl, hr2, hlen2, HG.out, bl8, (d5.trans (b6.mono (by omega))).trans (t7.below.trans t8.below)⟩
              case measure => simp only [strLen_string]; exact hr3
          · obtain rfl : z = 60 := hzx
            have HF := Lib.hid (HNone.out (hgo.out.bad h3 h2 (.inl rfl)))
            clear h1 h2 h3 hct hext HC
            go_wp2_with (go_at_call 96; refine (HI.out _).mono ?_; rintro e w4 ⟨rfl, b4⟩)
            refine (HCO.out _).mono ?_
            rintro e w5 ⟨rfl, b5⟩
            go_wp2_with fail
            go_ret2
            exact ⟨by rw [HF.out]; rfl, c3.out.trans (((hbw.trans (b4.mono (by omega))).trans (b5.mono (by have := b4.size; omega))).mono hwb)⟩
end Go.Proofs.YtbkfmbkamocllaaGreatDoor
