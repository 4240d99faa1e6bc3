/-
  THE DOCUMENT's OWN ANSWER for escape.Back: cardexref01.Back.
-/
import Derived.Test.YtlpjealcmnnbnaaGreatDoorEntW
namespace Go.Proofs.YtlpjealcmnnbnaaGreatDoor
open Go.RowKit Tx

/-- how the document's loop stands: o ahead, the rest from k on -/
def Stand (l : List UInt8) (k : Nat) (o : List UInt8) : Prop := back l = (back (l.drop k)).map (o ++ ·)
theorem Stand.start (l : List UInt8) : Stand l 0 [] := by unfold Stand; rw [List.drop_zero]; cases back l <;> rfl
theorem Stand.done {l o : List UInt8} {k : Nat} (h : Stand l k o) (hk : l.length ≤ k) : back l = some o := by
  unfold Stand at h
  rw [List.drop_eq_nil_of_le hk, back_nil] at h
  simpa using h
section
variable {s : ByteArray} {k : Nat} {o : List UInt8}
theorem Stand.lt (h : Stand s.data.toList k o) (hk : k < s.size) (hc : (s[k]'hk) = 60) : back s.data.toList = none := by
  unfold Stand at h
  rw [h, drop_step hk, hc, back_lt]
  rfl
theorem Stand.plain (h : Stand s.data.toList k o) (hk : k < s.size) (h1 : (s[k]'hk) ≠ 60) (h2 : (s[k]'hk) ≠ 38) : Stand s.data.toList (k + 1) (o ++ [s[k]'hk]) := by
  unfold Stand at h ⊢
  rw [h, drop_step hk, back_plain _ h1 h2]
  cases back (List.drop (k + 1) s.data.toList) <;> simp
/-- no ";" between -/
def NoSemi (s : ByteArray) (k e : Nat) : Prop := ∀ j, k ≤ j → j < e → s.data.toList.getD j 0 ≠ 59
theorem getD_drop (l : List UInt8) (i j : Nat) : (l.drop i).getD j 0 = l.getD (i + j) 0 := by simp [List.getD_eq_getElem?_getD, List.getElem?_drop]
theorem Stand.open (h : Stand s.data.toList k o) (hk : k < s.size) (hc : (s[k]'hk) = 38) (hn : NoSemi s k s.size) : back s.data.toList = none := by
  unfold Stand at h
  rw [h, drop_step hk, hc, back_amp_none]
  · rfl
  · refine cutS_not _ (fun j hj => ?_)
    rw [List.length_drop, ← Lib.size_eq] at hj
    rw [getD_drop]
    exact hn _ (by omega) (by omega)
theorem cut_here {e : Nat} (he : e < s.size) (hke : k < e) (hn : NoSemi s k e) (h59 : (s[e]'he) = 59) : cutS (s.data.toList.drop (k + 1)) = some ((s.extract (k + 1) e).data.toList, s.data.toList.drop (e + 1)) := by
  have h' : e < s.data.toList.length := by rw [← Lib.size_eq]; exact he
  rw [cutS_at (s.data.toList.drop (k + 1)) (e - (k + 1)) (fun j hj => by rw [getD_drop]; exact hn _ (by omega) (by omega)) (by
    rw [List.getElem?_drop, show k + 1 + (e - (k + 1)) = e by omega, List.getElem?_eq_getElem h']; exact congrArg some h59)]
  rw [mid_cut, List.drop_drop, show k + 1 + (e - (k + 1) + 1) = e + 1 by omega]
theorem Stand.bad {e : Nat} (h : Stand s.data.toList k o) (hk : k < s.size) (hc : (s[k]'hk) = 38) (he : e < s.size) (hke : k < e) (hn : NoSemi s k e) (h59 : (s[e]'he) = 59) (hx : ent (s.extract (k + 1) e).data.toList = none) : back s.data.toList = none := by
  unfold Stand at h
  rw [h, drop_step hk, hc, back_amp_bad (cut_here he hke hn h59) hx]
  rfl
theorem Stand.ent {e v : Nat} (h : Stand s.data.toList k o) (hk : k < s.size) (hc : (s[k]'hk) = 38) (he : e < s.size) (hke : k < e) (hn : NoSemi s k e) (h59 : (s[e]'he) = 59) (hx : ent (s.extract (k + 1) e).data.toList = some v) : Stand s.data.toList (e + 1) (o ++ entB (s.extract (k + 1) e).data.toList) := by
  unfold Stand at h ⊢
  rw [h, drop_step hk, hc, back_amp_some (cut_here he hke hn h59) hx, entB_some hx]
  cases back (List.drop (e + 1) s.data.toList) <;> simp
end

set_option maxHeartbeats 4000000 in
set_option maxRecDepth 100000 in
theorem rback_any (s : ByteArray) (w : World) (hs : s.size < 10000000000000) :
    Calls Tryz.prog 29 #[.string s] w fun e w' => e = .returned (backV s.data.toList) ∧ Below w.heap.size w w' := by
  have hsz := Lib.hid (Lib.size_eq s)
  have HV := Lib.hid (rvalid_any s w hs)
  cases hv : valid s.data.toList with
  | false =>
    rw [hv] at HV
    have HF := Lib.hid (backV_utf hv)
    clear hv
    go_enter Tryz.func29, Tryz.ntmps29
    go_wp2_with (go_at_call 15; refine HV.out.mono ?_; rintro e w1 ⟨rfl, rfl⟩)
    go_ret2
    exact ⟨by rw [HF.out]; rfl, Below.refl _ _⟩
  | true =>
    rw [hv] at HV
    have HNone := Lib.hid (fun h => backV_none hv h)
    have HSome := Lib.hid (fun x h => backV_some (x := x) hv h)
    have HEnt := Lib.hid (fun (n : ByteArray) (W : World) h => entity_any n W h)
    clear hv
    go_enter Tryz.func29, Tryz.ntmps29
    go_wp2_with (go_at_call 15; refine HV.out.mono ?_; rintro e w1 ⟨rfl, rfl⟩)
    go_loopw [4, 5] (fun out at_ wr => ∃ (k : Nat) (o : ByteArray), k ≤ s.size ∧ out = .string o ∧ at_ = .int .i64 k ∧ o.size ≤ 4 * k ∧ Hid (Stand s.data.toList k o.data.toList) ∧ Below w.heap.size w wr) (fun _ at_ _ => s.size - (intOf at_).toNat)
    case atStart => exact ⟨0, ⟨#[]⟩, Nat.zero_le _, rfl, rfl, Nat.le_refl _, Lib.hid (Stand.start _), Below.refl _ _⟩
    case round =>
      obtain ⟨k, o, hk, rfl, rfl, hosz, hst, hb⟩ := hrel
      have hsw := hb.size
      by_cases hlt : k < s.size
      · have hcut := Lib.hid (one_cut hlt)
        obtain ⟨z, hz⟩ : ∃ z : Int, ((s[k]'hlt).toNat : Int) = z := ⟨_, rfl⟩
        have HU : Hid (∀ n : UInt8, z = n.toNat → (s[k]'hlt) = n) := fun n hn => UInt8.toNat_inj.1 (by omega)
        have HN : Hid (∀ n : UInt8, (s[k]'hlt) = n → z = n.toNat) := fun n hn => by rw [← hz, hn]
        by_cases h60 : z = 60
        · have HF := Lib.hid (HNone.out (hst.out.lt hlt (HU.out 60 h60)))
          subst h60
          go_wp2_with fail
          go_ret2
          exact ⟨by rw [HF.out]; rfl, hb⟩
        by_cases h38 : z = 38
        · have hc38 : Hid ((s[k]'hlt) = 38) := HU.out 38 h38
          have f1 : (z == 60) = false := by rw [h38]; rfl
          subst h38
          go_wp2_with fail
          go_loop [6] (fun en => ∃ (m : Nat), k ≤ m ∧ m ≤ s.size ∧ en = .int .i64 m ∧ Hid (NoSemi s k m)) (fun en => s.size - (intOf en).toNat)
          case atStart => exact ⟨k, Nat.le_refl _, hk, rfl, fun j h1 h2 => by omega⟩
          case round =>
            obtain ⟨m, hkm, hms, rfl, hno⟩ := hrel
            by_cases hlm : m < s.size
            · obtain ⟨y, hy⟩ : ∃ y : Int, ((s[m]'hlm).toNat : Int) = y := ⟨_, rfl⟩
              have hgd : Hid (s.data.toList.getD m 0 = s[m]'hlm) := by
                unfold Hid
                rw [List.getD_eq_getElem?_getD, Lib.data_getElem? s m hlm]
                rfl
              by_cases h59 : y = 59
              · have hm59 : Hid ((s[m]'hlm) = 59) := UInt8.toNat_inj.1 (by have : ((59 : UInt8).toNat : Int) = 59 := rfl; omega)
                have hne : k ≠ m := fun e => by
                  subst e
                  have := hc38.out
                  rw [hm59.out] at this
                  exact absurd this (by decide)
                have hkm' : k < m := by omega
                have HE := Lib.hid (fun (W : World) => HEnt.out (s.extract (k + 1) m) W (by rw [ByteArray.size_extract]; omega))
                have hel := entB_le (s.extract (k + 1) m).data.toList
                subst h59
                cases hent : ent (s.extract (k + 1) m).data.toList with
                | none =>
                  have HF := Lib.hid (HNone.out (hst.out.bad hlt hc38.out hlm hkm' hno.out hm59.out hent))
                  rw [entB_none hent] at HE
                  clear hent hel
                  go_wp2_with (go_at_call 47; refine (HE.out _).mono ?_; rintro e w2 ⟨rfl, b2⟩)
                  go_ret2
                  exact ⟨by rw [HF.out]; rfl, hb.trans (b2.mono hsw)⟩
                | some v =>
                  have HS := Lib.hid (hst.out.ent hlt hc38.out hlm hkm' hno.out hm59.out hent)
                  have hxne := entB_ne hent
                  obtain ⟨x, hx⟩ : ∃ x, entB (s.extract (k + 1) m).data.toList = x := ⟨_, rfl⟩
                  rw [hx] at HE HS hel hxne
                  have hxe : (⟨x.toArray⟩ : ByteArray).toList.isEmpty = false := by
                    rw [ByteArray.toList_mk]
                    cases x with
                    | nil => exact absurd rfl hxne
                    | cons a t => rfl
                  have hxs : (⟨x.toArray⟩ : ByteArray).size ≤ 4 := by rw [Lib.size_eq]; exact hel
                  obtain ⟨b, hbx⟩ : ∃ b : ByteArray, ⟨x.toArray⟩ = b := ⟨_, rfl⟩
                  have hbl : Hid (b.data.toList = x) := by unfold Hid; rw [← hbx]
                  rw [hbx] at HE hxe hxs
                  clear hent hx hxne hbx hel
                  go_wp2_with (go_at_call 47; refine (HE.out _).mono ?_; rintro e w2 ⟨rfl, b2⟩)
                  go_roundw
                  case rel => exact ⟨m + 1, _, by omega, rfl, by go_num, by rw [ByteArray.size_append]; omega, by unfold Hid; rw [cat_list, hbl.out]; exact HS.out, hb.trans (b2.mono hsw)⟩
                  case measure => simp [intOf]; omega
              · have hno' : Hid (NoSemi s k (m + 1)) := fun j h1 h2 => by
                  rcases Nat.lt_or_ge j m with h | h
                  · exact hno.out j h1 h
                  · obtain rfl : j = m := by omega
                    rw [hgd.out]
                    intro e
                    apply h59
                    rw [← hy, e]; rfl
                have f3 : (y != 59) = true := by simpa using h59
                clear h59
                go_wp2_with fail
                go_round
                case rel => exact ⟨m + 1, by omega, by omega, by go_num, hno'⟩
                case measure => simp [intOf]; omega
            · obtain rfl : m = s.size := by omega
              have HF := Lib.hid (HNone.out (hst.out.open hlt hc38.out hno.out))
              go_wp2_with fail
              go_ret2
              exact ⟨by rw [HF.out]; rfl, hb⟩
        · have HS := Lib.hid (hst.out.plain hlt (fun h => h60 (HN.out 60 h)) (fun h => h38 (HN.out 38 h)))
          have f1 : (z == 60) = false := by simpa using h60
          have f2 : (z != 38) = true := by simpa using h38
          clear h60 h38
          go_wp2_with fail
          go_roundw
          case rel => exact ⟨k + 1, _, by omega, rfl, by go_num, by rw [ByteArray.size_append, ByteArray.size_extract]; omega, by unfold Hid; rw [cat_list, hcut.out]; exact HS.out, hb⟩
          case measure => simp [intOf]; omega
      · have hke : s.data.toList.length ≤ k := by rw [← hsz.out]; omega
        have HF := Lib.hid (HSome.out _ (hst.out.done hke))
        clear hke
        go_wp2_with fail
        go_ret2
        exact ⟨by rw [HF.out]; rfl, hb⟩
end Go.Proofs.YtlpjealcmnnbnaaGreatDoor
