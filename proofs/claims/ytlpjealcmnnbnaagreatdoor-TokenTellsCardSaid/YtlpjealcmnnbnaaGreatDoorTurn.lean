/-
  escape.turned: the table by what stands for its keys.
-/
import Derived.Test.YtlpjealcmnnbnaaGreatDoorSigns
import Derived.Laws.AppendOwn
import Derived.Laws.MakeOwn
namespace Go.Proofs.YtlpjealcmnnbnaaGreatDoor
open Go.RowKit Tx

def rowS (es : List (Nat × ByteArray)) : List Value := es.flatMap fun e => [.string e.2, .int .u8 e.1]
theorem rowS_snoc (es : List (Nat × ByteArray)) (e : Nat × ByteArray) : rowS (es ++ [e]) = rowS es ++ [.string e.2, .int .u8 e.1] := by simp [rowS]
theorem rowS_length (es : List (Nat × ByteArray)) : (rowS es).length = es.length * 2 := by
  unfold rowS
  rw [List.length_flatMap]
  simp
  induction es with
  | nil => rfl
  | cons e es ih => simp only [List.map_cons, List.sum_cons, List.length_cons, ih]; omega
theorem rowS_get : ∀ (es : List (Nat × ByteArray)) (j : Nat) (e : Nat × ByteArray), es[j]? = some e → (rowS es)[j * 2]? = some (.string e.2) ∧ (rowS es)[j * 2 + 1]? = some (.int .u8 e.1)
  | [], j, e, h => by simp at h
  | a :: es, 0, e, h => by
    obtain rfl : a = e := by simpa using h
    exact ⟨rfl, rfl⟩
  | a :: es, j + 1, e, h => by
    have := rowS_get es j e (by simpa using h)
    have e2 : rowS (a :: es) = .string a.2 :: .int .u8 a.1 :: rowS es := rfl
    rw [e2, show (j + 1) * 2 = j * 2 + 1 + 1 by omega]
    simpa using this
def OwnS (B : Nat) (w : World) (v : Value) (es : List (Nat × ByteArray)) : Prop := w.ownsRow B 117 2 v es.length (rowS es)
theorem OwnS.ents {B n : Nat} {w : World} {v : Value} {es : List (Nat × ByteArray)} (h : OwnS B w v es) (hn : es.length = n) (h0 : 0 < n) : ∃ g cap, v = .slice (some ⟨g, 0, none⟩) n cap ∧ EntsS w g (es.map fun e => (e.2, e.1)) ∧ B ≤ g ∧ g < w.heap.size := by
  rcases h.2 with ⟨_, h1⟩ | ⟨g, cap, cur, hv, hB, hg, h1, h2, h3, h4⟩
  · omega
  · refine ⟨g, cap, by rw [hv, hn], ?_, hB, (Array.getElem?_eq_some_iff.1 hg).1⟩
    intro j e he
    rw [List.getElem?_map] at he
    obtain ⟨e', he', rfl⟩ := Option.map_eq_some_iff.1 he
    have hj : j < es.length := (List.getElem?_eq_some_iff.1 he').1
    have hr := rowS_get es j e' he'
    have hc : ∀ i, i < es.length * 2 → w.cell? ⟨g, i, none⟩ = (rowS es)[i]? := fun i hi => by
      rw [cell_of_row w g i cur _ _ hg, ← h4, List.getElem?_take_of_lt hi]
      simp
    rw [hc _ (by omega), hc _ (by omega)]
    exact hr
theorem infoEntS : (Tryz.prog.info? 117).map (fun i => (i.zero, i.size, i.bytes)) = some (some (.agg #[.string ⟨#[]⟩, .int .u8 0]), 2, 24) := by kernel_rfl

set_option maxHeartbeats 2000000 in
set_option maxRecDepth 100000 in
theorem turned_any (g n : Nat) (es : List (Nat × ByteArray)) (w : World) (hg : g < w.heap.size) (he : EntsB w g es) (hn : es.length = n) (hn2 : n < 1000) (hn0 : 0 < n) :
    Calls Tryz.prog 56 #[.slice (some ⟨g, 0, none⟩) n n] w fun e w' => ∃ g' cap, e = .returned (.slice (some ⟨g', 0, none⟩) n cap) ∧ EntsS w' g' (es.map fun e => (e.2, e.1)) ∧ w.heap.size ≤ g' ∧ g' < w'.heap.size ∧ Below w.heap.size w w' := by
  obtain ⟨i0, hi, hz0, hz1, hz2⟩ := info_parts infoEntS
  have HE := Lib.hid (fun (W : World) (hb : Below w.heap.size w W) => he.below hb hg)
  have HL := Lib.hid (fun (k : Nat) (h : k < n) => (⟨es[k], List.getElem?_eq_getElem (by omega)⟩ : ∃ e, es[k]? = some e))
  have HN := Lib.hid hn
  clear he hn
  obtain ⟨w1, hmk, hown0, hgr⟩ := run_make_own (P := Tryz.prog) w w.heap.size 83 117 i0 _ 2 Tryz.underlying83 hi hz0 hz1 .i64 .i64 n (by rw [hz2]; omega) (by unfold maxLen; omega) (Nat.le_refl _)
  have hb0 : Below w.heap.size w w1 := (Below.refl _ _).grown hgr (Nat.le_refl _) (fun k hk => by cases hk)
  have HO0 : Hid (OwnS w.heap.size w1 (.slice (some ⟨w.heap.size, 0, none⟩) 0 n) []) := hown0
  clear hown0 hgr
  go_enter Tryz.func56, Tryz.ntmps56
  go_wp2_with fail
  go_loopw [3, 11] (fun tab at_ wr => ∃ (k : Nat) (v : Value), k ≤ n ∧ tab = v ∧ at_ = .int .i64 k ∧ Hid (OwnS w.heap.size wr v (es.take k)) ∧ Below w.heap.size w wr) (fun _ at_ _ => n - (intOf at_).toNat)
  case atStart => exact ⟨0, _, Nat.zero_le _, rfl, rfl, HO0.out, hb0⟩
  case round =>
    obtain ⟨k, tab, hk, htab, rfl, hown, hb⟩ := hrel
    have htab2 := htab.symm
    subst htab2
    have hsw := hb.size
    by_cases hlt : k < n
    · obtain ⟨⟨z, s⟩, hz⟩ := HL.out k hlt
      obtain ⟨c0, c1⟩ := HE.out wr hb k _ hz
      have htk : Hid (es.take (k + 1) = es.take k ++ [(z, s)]) := by
        unfold Hid
        rw [List.take_add_one, hz]
        rfl
      have hlen : (es.take k).length = k := by rw [List.length_take, HN.out]; omega
      obtain ⟨z', hz'⟩ : ∃ z' : Int, (z : Int) = z' := ⟨_, rfl⟩
      have hzz := Lib.hid hz'
      rw [hz'] at c0
      have ho : wr.ownsRow w.heap.size 117 2 tab k (rowS (es.take k)) := by have := hown.out; unfold OwnS at this; rw [hlen] at this; exact this
      have HO := Lib.hid ho
      have hlow : Hid (∀ j, tab.ownBlock = some j → w.heap.size ≤ j) := fun j hj => (ho.lt j hj).1
      clear hz hlen hz' ho
      go_wp2_with (at_builtin; refine wpList_append_own _ rfl _ _ 83 rfl w.heap.size 117 i0 (.agg #[.string ⟨#[]⟩, .int .u8 0]) 2 24 Tryz.underlying83 hi hz0 hz1 hz2 rfl (by decide) _ k (rowS (es.take k)) rfl ((HO.out.alloc _).alloc _) ⟨wr.heap.size + 1, 0, none⟩ 1 1 [.string s, .int .u8 z'] rfl rfl ?e1 ?e2 ?e3 ?e4 ?e5 ?_)
      case e2 => exact ⟨rfl, rfl⟩
      case e3 => first | omega | (unfold maxLen; omega)
      case e4 => omega
      case e5 => omega
      intro v' w2 hown' hgrow _
      have hown2 : Hid (OwnS w.heap.size w2 v' (es.take (k + 1))) := by
        unfold Hid OwnS
        rw [htk.out, rowS_snoc, List.length_append, List.length_singleton]
        rw [show (es.take k).length = k by rw [List.length_take, HN.out]; omega, hzz.out]
        exact hown'
      have hb2 : Below w.heap.size w w2 := ((hb.alloc hsw _).alloc (by simp; omega) _).grown hgrow (by simp; omega) hlow.out
      clear hown' hgrow
      go_wp2_with fail
      go_roundw
      case rel => exact ⟨k + 1, _, by omega, rfl, by go_num, hown2, hb2⟩
      case measure => simp [intOf]; omega
    · obtain rfl : k = n := by omega
      have hall : es.take k = es := by rw [← HN.out]; exact List.take_length
      rw [hall] at hown
      obtain ⟨g', cap, rfl, h1, h2, h3⟩ := hown.out.ents HN.out hn0
      have H1 := Lib.hid h1
      clear h1 hall
      go_wp2_with fail
      go_ret
      exact ⟨g', cap, rfl, H1.out, h2, h3, hb⟩
end Go.Proofs.YtlpjealcmnnbnaaGreatDoor
