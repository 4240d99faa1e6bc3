/-
  package canon: an attribute told, attributes told one behind the other.
-/
import Derived.Test.YtbkfmbkamocllaaDoorCnD
import Derived.Deep.RegionWith
import Derived.Test.YtbkfmbkamocllaaDoorBld
namespace Go.Proofs.YtbkfmbkamocllaaDoor
open Go.RowKit Tk Tr Cn

theorem attr_cat (n v : List UInt8) : (⟨#[32]⟩ ++ bts n ++ ⟨#[61, 39]⟩ ++ bts (Tx.esc v) ++ ⟨#[39]⟩ : ByteArray) = bts (attrT n v) := by
  apply ByteArray.ext
  apply Array.ext'
  simp [attrT]
set_option maxHeartbeats 4000000 in
set_option maxRecDepth 100000 in
theorem attribute_any (a : Att) (w : World) (h1 : a.1.length ≤ 1000000000) (h2 : a.2.length ≤ 1000000000) :
    Calls Tryd.prog 24 #[agA a] w fun e w' => e = .returned (.string (bts (attrT a.1 a.2))) ∧ Below w.heap.size w w' := by
  have hcat := attr_cat a.1 a.2
  have hes := Tx.esc_len a.2
  obtain ⟨Y, hY⟩ : ∃ Y, w.heap.size = Y := ⟨_, rfl⟩
  obtain ⟨W1, hW1⟩ : ∃ W, w.alloc (.cells #[.string (bts a.1), .string (bts a.2)] 29) = W := ⟨_, rfl⟩
  have B1 : Hid (Below w.heap.size w W1) := by rw [← hW1]; exact (Below.refl _ _).alloc (Nat.le_refl _) _
  have hk : Bk W1 Y 29 #[.string (bts a.1), .string (bts a.2)] := by rw [← hW1, ← hY]; exact Bk.new _ _ _
  have y0 : W1.cell? ⟨Y, 0, none⟩ = some (.string (bts a.1)) := hk.cell 0
  have y1 : W1.cell? ⟨Y, 1, none⟩ = some (.string (bts a.2)) := hk.cell 1
  have HYL : Hid (Y < W1.heap.size) := hk.lt
  have HT := Lib.hid (fun (W : World) (h : Below W1.heap.size W1 W) => (text_any (bts a.2) W (by rw [bts_size]; omega)).mono (fun e w' (hh : e = .returned (.string ⟨(Tx.esc (bts a.2).data.toList).toArray⟩) ∧ Below W.heap.size W w') => (⟨hh.1, h.trans (hh.2.mono h.size)⟩ : e = .returned (.string (bts (Tx.esc a.2))) ∧ Below W1.heap.size W1 w')))
  have e1 : (bts a.1).size ≤ 1000000000 := by rw [bts_size]; exact h1
  have e2 : (bts (Tx.esc a.2)).size ≤ 6000000000 := by rw [bts_size]; omega
  obtain ⟨n0, hn0⟩ : ∃ x, bts a.1 = x := ⟨_, rfl⟩
  obtain ⟨v0, hv0⟩ : ∃ x, bts a.2 = x := ⟨_, rfl⟩
  obtain ⟨E, hE⟩ : ∃ x, bts (Tx.esc a.2) = x := ⟨_, rfl⟩
  have HW1 := Lib.hid hW1
  have HYE := Lib.hid hY
  unfold agA
  rw [hn0] at y0 hcat e1 HW1 ⊢
  rw [hv0] at y1 HT HW1 ⊢
  rw [hE] at HT hcat e2
  have HC := Lib.hid hcat
  have HL := Lib.hid (fun (W : World) (h : Below W1.heap.size W1 W) i => h.cell (p := ⟨Y, i, none⟩) HYL.out)
  clear hcat hes hY hW1 hk hn0 hv0 hE h1 h2
  go_enter Tryd.func24, Tryd.ntmps24
  go_upto_region 1 with fail
  rw [HW1.out, HYE.out]
  go_region_with ((go_at_call 25; refine (HT.out _ ?_).mono ?_; exact ⟨rfl, rfl, rfl, Nat.le_refl _, fun _ _ => rfl⟩; rintro e w2 ⟨rfl, b2⟩; have r0 := (HL.out _ b2 0).trans y0))
  all_goals
    go_wp2_with fail
    go_ret
    exact ⟨by rw [← HC.out]; rfl, B1.out.trans (b2.mono B1.out.size)⟩
theorem attrs_take {l : List Att} {k : Nat} {a : Att} (h : l[k]? = some a) : attrsT (l.take (k + 1)) = attrsT (l.take k) ++ attrT a.1 a.2 := by
  unfold attrsT
  rw [List.take_add_one, h, List.flatMap_append]
  simp
theorem ownA_take (l : List Att) (k : Nat) : ownA (l.take k) ≤ ownA l := by
  have h := ownA_append (l.take k) (l.drop k)
  rw [List.take_append_drop] at h
  omega
set_option maxHeartbeats 4000000 in
set_option maxRecDepth 100000 in
theorem writtenA_any (v : Value) (l : List Att) (w : World) (hv : ReadC w v l) (hs : ownA l ≤ 1000000000) :
    Calls Tryd.prog 22 #[v, .func (.func 24) #[] #[]] w fun e w' => e = .returned (.string (bts (attrsT l))) ∧ Below w.heap.size w w' := by
  have hl : l.length ≤ 1000000000 := Nat.le_trans (ownA_count l) hs
  obtain ⟨A, cap, rfl, -, -, hx⟩ := hv
  have HX := Lib.hid hx
  have HS := Lib.hid hs
  have eg : ∀ args w, (callFunc 24 args).run Tryd.prog w = .ok (.enter 24 args) w := Go.Proofs.enters_of Tryd.func24 (by kernel_rfl) rfl
  obtain ⟨n, hn⟩ : ∃ n, l.length = n := ⟨_, rfl⟩
  have HN := Lib.hid hn
  rw [hn] at hl HX ⊢
  obtain ⟨b, hb⟩ : ∃ b, w.heap.size = b := ⟨_, rfl⟩
  obtain ⟨W1, hW1⟩ : ∃ W, w.alloc (.cells #[.pointer none, .slice none 0 0] 61) = W := ⟨_, rfl⟩
  have B1 : Hid (Below b w W1) := by rw [← hW1, ← hb]; exact (Below.refl _ _).alloc (Nat.le_refl _) _
  have D1 : Hid (Bld b (b + 1) [] W1) := by rw [← hW1, ← hb]; exact Bld.start w
  have HW1 := Lib.hid hW1
  have HBE := Lib.hid hb
  clear hx hs hn hb hW1
  go_enter Tryd.func22, Tryd.ntmps22
  go_upto_region 2 with fail
  rw [HW1.out, HBE.out]
  go_wp2_with fail
  go_loopw [10] (fun c wr => ∃ (k : Nat), k ≤ n ∧ c = .int .i64 k ∧ Hid (Bld b (b + 1) (attrsT (l.take k)) wr) ∧ Hid (Below b w wr)) (fun c _ => n - (intOf c).toNat)
  case atStart => exact ⟨0, Nat.zero_le _, rfl, D1.out, B1.out⟩
  case round =>
    obtain ⟨k, hk, rfl, hd, hbw⟩ := hrel
    by_cases hlt : k < n
    · obtain ⟨ad, rfl, hlb, hc⟩ := HX.out (by omega)
      rw [HBE.out] at hlb
      obtain ⟨a, ha⟩ : ∃ a, l[k]? = some a := ⟨_, List.getElem?_eq_getElem (by have := HN.out; omega)⟩
      obtain ⟨c0, c1⟩ := hc k a ha
      rw [← hbw.out.cell (p := ad.add (k * 2)) (by rw [addBlock]; exact hlb)] at c0
      rw [← hbw.out.cell (p := ⟨(ad.add (k * 2)).block, (ad.add (k * 2)).off + 1, none⟩) (by show (ad.add (k * 2)).block < _; rw [addBlock]; exact hlb)] at c1
      obtain ⟨m1, m2⟩ := ownA_mem (List.mem_of_getElem? ha)
      have HAT := Lib.hid (attrs_take ha)
      obtain ⟨Y5, hY5⟩ : ∃ Y, wr.heap.size = Y := ⟨_, rfl⟩
      obtain ⟨W5, hW5⟩ : ∃ W, wr.alloc (.cells #[.string (bts a.1), .string (bts a.2)] 29) = W := ⟨_, rfl⟩
      have hw5 : Below wr.heap.size wr W5 := by rw [← hW5]; exact (Below.refl _ _).alloc (Nat.le_refl _) _
      have q0 : W5.cell? ⟨Y5, 0, none⟩ = some (.string (bts a.1)) := by rw [← hW5, ← hY5]; exact (Bk.new _ _ _).cell 0
      have q1 : W5.cell? ⟨Y5, 1, none⟩ = some (.string (bts a.2)) := by rw [← hW5, ← hY5]; exact (Bk.new _ _ _).cell 1
      have hbs : b ≤ wr.heap.size := by have := hd.out.lt; omega
      have B5 : Hid (Below b w W5) := hbw.out.trans (hw5.mono hbs)
      have D5 : Hid (Bld b (b + 1) (attrsT (l.take k)) W5) := hd.out.below hw5
      have HQ := Lib.hid (attribute_any a W5 (by have := HS.out; omega) (by have := HS.out; omega))
      have HLN : Hid ((attrsT (l.take k)).length + (bts (attrT a.1 a.2)).size ≤ 140737488355328 - 4096) := by
        unfold Hid
        have h1 := attrsT_len (l.take (k + 1))
        have h2 := ownA_take l (k + 1)
        have h3 := HS.out
        rw [attrs_take ha, List.length_append] at h1
        rw [bts_size]
        omega
      have HBS := Lib.hid (fun (W : World) (h : Below W5.heap.size W5 W) => bld_string b (b + 1) (attrsT (l.take k)) (bts (attrT a.1 a.2)) W (D5.out.below h) HLN.out)
      have HD2 : Hid ((bts (attrT a.1 a.2)).data.toList = attrT a.1 a.2) := rfl
      have HW5 := Lib.hid hW5
      have HY5 := Lib.hid hY5
      unfold agA at HQ
      obtain ⟨y0, h0⟩ : ∃ y, bts a.1 = y := ⟨_, rfl⟩
      obtain ⟨y1, h1⟩ : ∃ y, bts a.2 = y := ⟨_, rfl⟩
      obtain ⟨E, hE⟩ : ∃ y, bts (attrT a.1 a.2) = y := ⟨_, rfl⟩
      rw [h0] at c0 q0 HQ HW5
      rw [h1] at c1 q1 HQ HW5
      rw [hE] at HQ HBS HD2
      have hb5 := B5.out.size
      have hW5s : Hid (b ≤ W5.heap.size) := Nat.le_trans hbs hw5.size
      clear hc ha m1 m2 hY5 hW5 hw5 hbs h0 h1 hE hd hbw HLN D5 hb5
      go_upto_region 5 with fail
      rw [HW5.out, HY5.out]
      clear c0 c1
      go_wp2_with fail
      refine HQ.out.mono ?_
      rintro e w6 ⟨rfl, b6⟩
      go_wp2_with (go_at_call 38; refine (HBS.out _ b6).mono ?_; rintro e w7 ⟨rfl, bl7, t7⟩)
      have B7 : Hid (Below b w w7) := (B5.out.trans (b6.mono hW5s.out)).trans t7.below
      have D7 : Hid (Bld b (b + 1) (attrsT (l.take (k + 1))) w7) := by unfold Hid; rw [HAT.out, ← HD2.out]; exact bl7
      go_roundw
      case rel => exact ⟨k + 1, by omega, by go_num, D7, B7⟩
      case measure => simp [intOf]; omega
    · have HT : Hid (l.take k = l) := by unfold Hid; rw [List.take_of_length_le (by have := HN.out; omega)]
      have hd2 := hd.out
      rw [HT.out] at hd2
      have HSt := Lib.hid (bld_String b (b + 1) _ wr hd2)
      clear hd2
      go_wp2_with (go_at_call 39; refine HSt.out.mono ?_; rintro e w5 ⟨rfl, b5⟩)
      go_ret
      rw [HBE.out]
      exact ⟨rfl, hbw.out.trans b5⟩
end Go.Proofs.YtbkfmbkamocllaaDoor
