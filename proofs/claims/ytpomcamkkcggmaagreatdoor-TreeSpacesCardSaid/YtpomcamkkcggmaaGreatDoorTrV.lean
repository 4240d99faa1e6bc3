/-
  package tree: the value of an attribute of a name; Attr.
-/
import Derived.Test.YtpomcamkkcggmaaGreatDoorTrG
import Derived.Lib.SlicesS
import Derived.Shelf.Abstract
namespace Go.Proofs.YtpomcamkkcggmaaGreatDoor
open Go.RowKit Tk Tr

theorem bts_inj2 {a b : List UInt8} (h : bts a = bts b) : a = b := congrArg (fun x => x.data.toList) h
theorem bts_eqb2 (a b : List UInt8) : ((bts a).toList == (bts b).toList) = decide (a = b) := by
  rw [ByteArray.toList_mk, ByteArray.toList_mk]
  by_cases h : a = b
  · simp [h]
  · rw [decide_eq_false h]
    simpa using h
theorem bts_self (b : ByteArray) : bts b.data.toList = b := by simp [bts]
set_option maxHeartbeats 1000000 in
theorem namedT_any (C : Nat) (n : List UInt8) (a : Att) (w : World) (hc : w.cell? ⟨C, 0, none⟩ = some (.string (bts n))) :
    Calls Tryz.prog 49 #[agA a, .pointer (some ⟨C, 0, none⟩)] w fun e w' => e = .returned (.bool (decide (a.1 = n))) ∧ Below w.heap.size w w' := by
  have he := bts_eqb2 a.1 n
  have hw : (w.alloc (.cells #[.string (bts a.1), .string (bts a.2)] 63)).cell? ⟨C, 0, none⟩ = some (.string (bts n)) := by
    rw [World.cell?_of_block (a := ⟨C, 0, none⟩) (Below.heap_alloc _ _ _ (World.block_lt_of_cell? w _ hc))]; exact hc
  unfold agA
  generalize bts a.1 = A at *
  generalize bts a.2 = A2 at *
  generalize bts n = N at *
  generalize decide (a.1 = n) = r at *
  go_enter Tryz.func49, Tryz.ntmps49
  go_wp2_with fail
  go_ret
  exact ⟨rfl, (Below.refl _ _).alloc (Nat.le_refl _) _⟩
theorem findA_hit {x : List Att} {k : Nat} {t : Att} {n : List UInt8} (h : x[k]? = some t) (hp : t.1 = n) (hno : ∀ j a, j < k → x[j]? = some a → a.1 ≠ n) : x.find? (fun a => decide (a.1 = n)) = some t := by
  rw [List.find?_eq_some_iff_getElem]
  obtain ⟨h1, h2⟩ := List.getElem?_eq_some_iff.1 h
  exact ⟨by simpa using hp, k, h1, h2, fun j hj => by simpa using hno j _ hj (List.getElem?_eq_getElem (by omega))⟩
theorem findA_miss {x : List Att} {n : List UInt8} (hno : ∀ j a, j < x.length → x[j]? = some a → a.1 ≠ n) : x.find? (fun a => decide (a.1 = n)) = none := by
  rw [List.find?_eq_none]
  intro a ha
  obtain ⟨j, hj, rfl⟩ := List.getElem_of_mem ha
  simpa using hno j _ hj (List.getElem?_eq_getElem hj)
set_option maxHeartbeats 2000000 in
theorem indexTr_any (C : Nat) (n : List UInt8) (v : Value) (x : List Att) (w : World) (hv : ReadA w v x) (hl : x.length ≤ 1000000000000) (hc : w.cell? ⟨C, 0, none⟩ = some (.string (bts n))) :
    Calls Tryz.prog 48 #[v, .func (.func 49) #[] #[.pointer (some ⟨C, 0, none⟩)]] w fun e w' =>
      ((∃ (i : Nat) (t : Att), e = .returned (.int .i64 i) ∧ x[i]? = some t ∧ x.find? (fun a => decide (a.1 = n)) = some t) ∨ (e = .returned (.int .i64 (-1)) ∧ x.find? (fun a => decide (a.1 = n)) = none)) ∧ Below w.heap.size w w' := by
  have eg : ∀ args w, (callFunc 49 args).run Tryz.prog w = .ok (.enter 49 args) w := Go.Proofs.enters_of Tryz.func49 (by kernel_rfl) rfl
  obtain ⟨A, cap, rfl, hx⟩ := hv
  have HX := Lib.hid hx
  have hCl := World.block_lt_of_cell? w _ hc
  have HQ0 := Lib.hid (fun a W (h : Below w.heap.size w W) => namedT_any C n a W ((h.cell (p := ⟨C, 0, none⟩) hCl).trans hc))
  clear hx hc hCl
  go_enter Tryz.func48, Tryz.ntmps48
  go_wp2_with fail
  go_loopw [8] (fun i wr => ∃ (k : Nat), k ≤ x.length ∧ i = .int .i64 k ∧ Hid (∀ j a, j < k → x[j]? = some a → a.1 ≠ n) ∧ Below w.heap.size w wr) (fun i _ => x.length - (intOf i).toNat)
  case atStart => exact ⟨0, Nat.zero_le _, rfl, Lib.hid (fun j a h => absurd h (Nat.not_lt_zero _)), Below.refl _ _⟩
  case round =>
    obtain ⟨k, hk, rfl, hno, hb⟩ := hrel
    have hsw := hb.size
    by_cases hlt : k < x.length
    · obtain ⟨ad, rfl, hlb, hc⟩ := HX.out (by omega)
      obtain ⟨c, hcx⟩ : ∃ c, x[k]? = some c := ⟨_, List.getElem?_eq_getElem hlt⟩
      obtain ⟨c0, c1⟩ := hc k c hcx
      rw [← hb.cell (p := ad.add (k * 2)) (by rw [addBlock]; exact hlb)] at c0
      rw [← hb.cell (p := ⟨(ad.add (k * 2)).block, (ad.add (k * 2)).off + 1, none⟩) (by show (ad.add (k * 2)).block < _; rw [addBlock]; exact hlb)] at c1
      have HC := Lib.hid hcx
      have HQ := Lib.hid (HQ0.out c wr hb)
      unfold agA at HQ
      obtain ⟨a0, h0⟩ : ∃ a, bts c.1 = a := ⟨_, rfl⟩
      obtain ⟨a1, h1⟩ : ∃ a, bts c.2 = a := ⟨_, rfl⟩
      rw [h0, h1] at HQ
      rw [h0] at c0
      rw [h1] at c1
      clear hc hcx h0 h1
      go_wp2_with fail
      refine HQ.out.mono ?_
      rintro e w2 ⟨rfl, b2⟩
      have hb2 : Below w.heap.size w w2 := hb.trans (b2.mono hsw)
      by_cases hq : c.1 = n
      · have hd : decide (c.1 = n) = true := decide_eq_true hq
        have hf := Lib.hid (findA_hit HC.out hq hno.out)
        rw [hd]
        clear hq hd b2
        go_wp2_with fail
        go_ret
        exact ⟨.inl ⟨k, c, rfl, HC.out, hf.out⟩, hb2⟩
      · have hd : decide (c.1 = n) = false := decide_eq_false hq
        have hno2 : Hid (∀ j a, j < k + 1 → x[j]? = some a → a.1 ≠ n) := Lib.hid (fun j a hj ha => by
          rcases Nat.lt_or_ge j k with h | h
          · exact hno.out j a h ha
          · obtain rfl : j = k := by omega
            rw [HC.out] at ha
            cases ha
            exact hq)
        rw [hd]
        clear hq hd b2
        go_wp2_with fail
        go_roundw
        case rel => exact ⟨k + 1, by omega, by go_num, hno2, hb2⟩
        case measure => simp [intOf]; omega
    · have hke : Hid (x.length ≤ k) := by unfold Hid; omega
      have hf := Lib.hid (findA_miss (x := x) (n := n) (fun j a hj ha => hno.out j a (by have := hke.out; omega) ha))
      go_wp2_with fail
      go_ret
      exact ⟨.inr ⟨rfl, hf.out⟩, hb⟩
set_option maxHeartbeats 2000000 in
theorem valueT_any (u : Value) (x : List Att) (n : List UInt8) (w : World) (hu : ReadA w u x) (hl : x.length ≤ 1000000000000) :
    Calls Tryz.prog 27 #[u, .string (bts n)] w fun e w' => e = .returned (.tuple #[.string (bts (attrOf x n).1), .bool (attrOf x n).2]) ∧ Below w.heap.size w w' := by
  have HB : Hid (Below w.heap.size w (w.alloc (.cells #[.string (bts n)] 9))) := (Below.refl _ _).alloc (Nat.le_refl _) _
  have hi := indexTr_any w.heap.size n u x _ (hu.below HB.out) hl ((Bk.new w 9 #[.string (bts n)]).cell 0)
  have HI := Lib.hid hi
  have HU := Lib.hid (hu.below HB.out)
  obtain ⟨A, cap, rfl, _⟩ := hu
  have HA : Hid (attrOf x n = match x.find? (fun a => decide (a.1 = n)) with | some a => (a.2, true) | none => ([], false)) := rfl
  clear hi
  go_enter Tryz.func27, Tryz.ntmps27
  go_wp2_with fail
  refine HI.out.mono ?_
  rintro e w2 ⟨hres, b2⟩
  have B2 : Hid (Below w.heap.size w w2) := HB.out.trans (b2.mono HB.out.size)
  have U2 := Lib.hid (HU.out.below b2)
  clear b2
  rcases hres with ⟨i, t, rfl, hit, hf⟩ | ⟨rfl, hf⟩
  · have HR : Hid (attrOf x n = (t.2, true)) := by unfold Hid; rw [HA.out, hf]
    have hil := (List.getElem?_eq_some_iff.1 hit).1
    obtain ⟨A', cap', e', hcells⟩ := U2.out
    injection e' with e1 e2 e3
    subst e1 e3
    obtain ⟨ad, rfl, hgl, hat⟩ := hcells (by omega)
    obtain ⟨k0, k1⟩ := hat i t hit
    have hlt : (i : Int) < (x.length : Int) := by omega
    have hneg : decide ((i : Int) < 0) = false := decide_eq_false (by omega)
    clear hit hf hcells hat e2
    go_wp2_with fail
    refine bodyPost_ret (v := .tuple #[.string (bts t.2), .bool true]) (by simp [results, Tryz.results27, go_sem]) rfl ⟨by rw [HR.out], B2.out⟩
  · have HR : Hid (attrOf x n = ([], false)) := by unfold Hid; rw [HA.out, hf]
    clear hf
    go_wp2_with fail
    refine bodyPost_ret (v := .tuple #[.string ⟨#[]⟩, .bool false]) (by simp [results, Tryz.results27, go_sem]) rfl ⟨by rw [HR.out], B2.out⟩
end Go.Proofs.YtpomcamkkcggmaaGreatDoor
