import Derived.WalkKit
import Derived.Lib.Hide
import Derived.Test.YtapelnndjjbeeaaGreatDoorZ01
import Derived.Laws.IdiomStrings
import Derived.Laws.Cover4
import Derived.Lib.MapLaws
section
/- what is reached of it -/
namespace Go.Proofs.YtapelnndjjbeeaaGreatDoor
open Go.RowKit
/-- Block g of w holds just these cells, none of them frozen. -/
def Bk (w : World) (g : Nat) (t : TypeId) (cs : Array Value) : Prop := w.heap[g]? = some (.cells cs t (0, 0))
namespace Bk
variable {w w' : World} {g : Nat} {t : TypeId} {cs : Array Value}
theorem lt (h : Bk w g t cs) : g < w.heap.size := lt_of_block h
theorem cell (h : Bk w g t cs) (i : Nat) : w.cell? ⟨g, i, none⟩ = cs[i]? := cell_of_row w g i cs t (0, 0) h
theorem free (h : Bk w g t cs) (i : Nat) : w.frozen? ⟨g, i, none⟩ = false := by
  have e : w.heap[g]? = some (.cells cs t (0, 0)) := h
  simp [World.frozen?, e]
theorem new (w : World) (t : TypeId) (cs : Array Value) : Bk (w.alloc (.cells cs t)) w.heap.size t cs := heap_alloc_new w _
theorem new1 (w : World) (o : Obj) (t : TypeId) (cs : Array Value) : Bk ((w.alloc o).alloc (.cells cs t)) (w.heap.size + 1) t cs := by
  have h := new (w.alloc o) t cs
  rwa [World.size_alloc] at h
theorem new2 (w : World) (o p : Obj) (t : TypeId) (cs : Array Value) : Bk (((w.alloc o).alloc p).alloc (.cells cs t)) (w.heap.size + 1 + 1) t cs := by
  have h := new ((w.alloc o).alloc p) t cs
  rwa [World.size_alloc, World.size_alloc] at h
theorem alloc (h : Bk w g t cs) (o : Obj) : Bk (w.alloc o) g t cs := (Below.heap_alloc w o g h.lt).trans h
theorem drew (h : Bk w g t cs) : Bk w.drew g t cs := h
theorem far (h : Bk w g t cs) {p : Addr} (hp : g ≠ p.block) (u : Value) : Bk (w.setCell p u) g t cs := (Below.heap_setCell w p u g hp).trans h
theorem put (h : Bk w g t cs) (i : Nat) (u : Value) : Bk (w.setCell ⟨g, i, none⟩ u) g t (cs.setIfInBounds i u) := by
  have e : w.heap[g]? = some (.cells cs t (0, 0)) := h
  show (w.heap.modify g _)[g]? = _
  simp [Array.getElem?_modify, e]
theorem two {a b : Value} (h : Bk w g t #[a, b]) (u v : Value) : Bk ((w.setCell ⟨g, 0, none⟩ u).setCell ⟨g, 1, none⟩ v) g t #[u, v] := by
  have := (h.put 0 u).put 1 v
  simpa using this
theorem below {B : Nat} (h : Bk w g t cs) (hb : Below B w w') (hg : g < B) : Bk w' g t cs := (hb.block g hg).trans h
theorem grown {row : Option Nat} (h : Bk w g t cs) (hb : w.grownBy w' row) (hg : some g ≠ row) : Bk w' g t cs := (hb.block g h.lt hg).trans h
end Bk
/-- Below its own size nothing turns: cells and marks alike. -/
theorem keep {W w1 : World} (hb : Below W.heap.size W w1) : (∀ b o, b < W.heap.size → w1.cell? ⟨b, o, none⟩ = W.cell? ⟨b, o, none⟩) ∧ (∀ b o, b < W.heap.size → w1.frozen? ⟨b, o, none⟩ = W.frozen? ⟨b, o, none⟩) :=
  ⟨fun b o h => hb.cell (p := ⟨b, o, none⟩) h, fun b o h => hb.frozen (p := ⟨b, o, none⟩) h⟩
theorem ret_bool {a b : Bool} (h : a = b) : Ending.returned (.bool a) = .returned (.bool b) := by rw [h]
theorem add_at (g o i : Nat) : (⟨g, o, none⟩ : Addr).add i = ⟨g, o + i, none⟩ := by unfold Addr.add; split <;> simp_all
theorem addBlock (a : Addr) (i : Nat) : (a.add i).block = a.block := by unfold Addr.add; split <;> rfl
theorem take_succ_same {α : Type} {x y : List α} {k : Nat} {a b : α} (hx : x[k]? = some a) (hy : y[k]? = some b) (h : x.take k = y.take k) (hk : a = b) : x.take (k + 1) = y.take (k + 1) := by
  rw [List.take_add_one, List.take_add_one, h, hx, hy, hk]
end Go.Proofs.YtapelnndjjbeeaaGreatDoor
end
section
/- what is reached of it -/
namespace Go.Proofs.YtapelnndjjbeeaaGreatDoor.Tx
open Go.Lib
/-- The bytes of a character that can be written. -/
def encB (c : Nat) : List UInt8 :=
  if c < 128 then [UInt8.ofNat c] else if c < 2048 then [UInt8.ofNat (192 + c / 64), UInt8.ofNat (128 + c % 64)]
  else if c < 65536 then [UInt8.ofNat (224 + c / 4096), UInt8.ofNat (128 + c / 64 % 64), UInt8.ofNat (128 + c % 64)]
  else [UInt8.ofNat (240 + c / 262144), UInt8.ofNat (128 + c / 4096 % 64), UInt8.ofNat (128 + c / 64 % 64), UInt8.ofNat (128 + c % 64)]
theorem encB_eq (r : Int) (c : Nat) (hc : (if Utf8.valid r then r.toNat else Utf8.runeError) = c) : (Utf8.encode r).data.toList = encB c := by
  unfold Utf8.encode encB
  simp only [hc]
  split
  · rfl
  · split
    · rfl
    · split <;> rfl
/-- May Go write it? -/
def sane (n : Nat) : Prop := n < 55296 ∨ (57343 < n ∧ n ≤ 1114111)
instance (n : Nat) : Decidable (sane n) := by unfold sane; exact inferInstance
/-- The bytes of a character, as Go writes it. -/
def enc (n : Nat) : List UInt8 := if sane n then encB n else [239, 191, 189]
theorem sane_valid {n : Nat} (h : sane n) : Utf8.valid (n : Int) = true := by
  unfold sane at h
  unfold Utf8.valid
  rw [Bool.or_eq_true, Bool.and_eq_true, Bool.and_eq_true]
  rcases h with h | h
  · exact .inl ⟨decide_eq_true (by omega), decide_eq_true (by omega)⟩
  · exact .inr ⟨decide_eq_true (by omega), decide_eq_true (by omega)⟩
theorem insane_valid {n : Nat} (h : ¬ sane n) : Utf8.valid (n : Int) = false := by
  unfold sane at h
  unfold Utf8.valid
  rw [Bool.or_eq_false_iff, Bool.and_eq_false_iff, Bool.and_eq_false_iff]
  refine ⟨.inr (decide_eq_false (by omega)), ?_⟩
  rcases Nat.lt_or_ge n 57344 with h1 | h1
  · exact .inl (decide_eq_false (by omega))
  · exact .inr (decide_eq_false (by omega))
theorem toNat_of (k : Nat) (h : k < 256) : (UInt8.ofNat k).toNat = k := by
  rw [UInt8.toNat_ofNat']
  exact Nat.mod_eq_of_lt h
theorem pickT {b : Bool} (h : b = true) {x y : Nat} : (if b = true then x else y) = x := by subst h; rfl
theorem pickF {b : Bool} (h : b = false) {x y : Nat} : (if b = true then x else y) = y := by subst h; rfl
theorem fffd : encB 65533 = [239, 191, 189] := by decide
theorem enc_sane {n : Nat} (h : sane n) : enc n = encB n := if_pos h
theorem enc_bad {n : Nat} (h : ¬ sane n) : enc n = [239, 191, 189] := if_neg h
/-- It is the model's own. -/
theorem enc_model (n : Nat) : (Utf8.encode (n : Int)).data.toList = enc n := by
  by_cases h : sane n
  · rw [enc_sane h]
    exact encB_eq _ _ ((pickT (sane_valid h)).trans (Int.toNat_natCast n))
  · rw [enc_bad h, ← fffd]
    exact encB_eq _ _ (pickF (insane_valid h))
theorem enc_cases {n : Nat} (h : sane n) :
    (n < 128 ∧ enc n = [UInt8.ofNat n]) ∨ (128 ≤ n ∧ n < 2048 ∧ enc n = [UInt8.ofNat (192 + n / 64), UInt8.ofNat (128 + n % 64)]) ∨
    (2048 ≤ n ∧ n < 65536 ∧ enc n = [UInt8.ofNat (224 + n / 4096), UInt8.ofNat (128 + n / 64 % 64), UInt8.ofNat (128 + n % 64)]) ∨
    (65536 ≤ n ∧ n ≤ 1114111 ∧ enc n = [UInt8.ofNat (240 + n / 262144), UInt8.ofNat (128 + n / 4096 % 64), UInt8.ofNat (128 + n / 64 % 64), UInt8.ofNat (128 + n % 64)]) := by
  rw [enc_sane h]
  unfold sane at h
  unfold encB
  by_cases h1 : n < 128
  · left; exact ⟨h1, if_pos h1⟩
  by_cases h2 : n < 2048
  · right; left; exact ⟨by omega, h2, by rw [if_neg h1, if_pos h2]⟩
  by_cases h3 : n < 65536
  · right; right; left; exact ⟨by omega, h3, by rw [if_neg h1, if_neg h2, if_pos h3]⟩
  · right; right; right; exact ⟨by omega, by omega, by rw [if_neg h1, if_neg h2, if_neg h3]⟩
theorem dc_enc {n : Nat} (h : sane n) : dc (enc n) = (n, (enc n).length) := by
  have hs := h
  unfold sane at hs
  rw [dc_bt]
  rcases enc_cases h with ⟨a, e⟩ | ⟨a, b, e⟩ | ⟨a, b, e⟩ | ⟨a, b, e⟩ <;> rw [e]
  · have b0 : bt [UInt8.ofNat n] 0 = n := by rw [bt_def]; exact toNat_of _ (by omega)
    rw [b0]
    unfold decodeN
    rw [if_pos a]
    rfl
  · have b0 : bt [UInt8.ofNat (192 + n / 64), UInt8.ofNat (128 + n % 64)] 0 = 192 + n / 64 := by rw [bt_def]; exact toNat_of _ (by omega)
    have b1 : bt [UInt8.ofNat (192 + n / 64), UInt8.ofNat (128 + n % 64)] 1 = 128 + n % 64 := by rw [bt_def]; exact toNat_of _ (by omega)
    rw [b0, b1]
    unfold decodeN
    simp only [List.length_cons, List.length_nil]
    rw [if_neg (by omega), if_pos (by omega), if_pos (by omega)]
    refine Prod.ext ?_ rfl
    simp only
    omega
  · have b0 : bt [UInt8.ofNat (224 + n / 4096), UInt8.ofNat (128 + n / 64 % 64), UInt8.ofNat (128 + n % 64)] 0 = 224 + n / 4096 := by rw [bt_def]; exact toNat_of _ (by omega)
    have b1 : bt [UInt8.ofNat (224 + n / 4096), UInt8.ofNat (128 + n / 64 % 64), UInt8.ofNat (128 + n % 64)] 1 = 128 + n / 64 % 64 := by rw [bt_def]; exact toNat_of _ (by omega)
    have b2 : bt [UInt8.ofNat (224 + n / 4096), UInt8.ofNat (128 + n / 64 % 64), UInt8.ofNat (128 + n % 64)] 2 = 128 + n % 64 := by rw [bt_def]; exact toNat_of _ (by omega)
    rw [b0, b1, b2]
    unfold decodeN
    simp only [List.length_cons, List.length_nil]
    rw [if_neg (by omega), if_neg (by omega), if_pos (by omega), if_pos (by omega)]
    refine Prod.ext ?_ rfl
    simp only
    omega
  · have b0 : bt [UInt8.ofNat (240 + n / 262144), UInt8.ofNat (128 + n / 4096 % 64), UInt8.ofNat (128 + n / 64 % 64), UInt8.ofNat (128 + n % 64)] 0 = 240 + n / 262144 := by rw [bt_def]; exact toNat_of _ (by omega)
    have b1 : bt [UInt8.ofNat (240 + n / 262144), UInt8.ofNat (128 + n / 4096 % 64), UInt8.ofNat (128 + n / 64 % 64), UInt8.ofNat (128 + n % 64)] 1 = 128 + n / 4096 % 64 := by rw [bt_def]; exact toNat_of _ (by omega)
    have b2 : bt [UInt8.ofNat (240 + n / 262144), UInt8.ofNat (128 + n / 4096 % 64), UInt8.ofNat (128 + n / 64 % 64), UInt8.ofNat (128 + n % 64)] 2 = 128 + n / 64 % 64 := by rw [bt_def]; exact toNat_of _ (by omega)
    have b3 : bt [UInt8.ofNat (240 + n / 262144), UInt8.ofNat (128 + n / 4096 % 64), UInt8.ofNat (128 + n / 64 % 64), UInt8.ofNat (128 + n % 64)] 3 = 128 + n % 64 := by rw [bt_def]; exact toNat_of _ (by omega)
    rw [b0, b1, b2, b3]
    unfold decodeN
    simp only [List.length_cons, List.length_nil]
    rw [if_neg (by omega), if_neg (by omega), if_neg (by omega), if_pos (by omega), if_pos (by omega)]
    refine Prod.ext ?_ rfl
    simp only
    omega
theorem enc_len {n : Nat} : 1 ≤ (enc n).length ∧ (enc n).length ≤ 4 := by
  by_cases h : sane n
  · rcases enc_cases h with ⟨_, e⟩ | ⟨_, _, e⟩ | ⟨_, _, e⟩ | ⟨_, _, e⟩ <;> rw [e] <;> simp
  · rw [enc_bad h]; simp
theorem enc_ne (n : Nat) : enc n ≠ [] := by
  intro e
  have := (enc_len (n := n)).1
  rw [e] at this
  simp at this
theorem enc_big {n : Nat} (h : sane n) (hn : 128 ≤ n) : 2 ≤ (enc n).length := by
  rcases enc_cases h with ⟨_, e⟩ | ⟨_, _, e⟩ | ⟨_, _, e⟩ | ⟨_, _, e⟩ <;> first | omega | (rw [e]; simp)
theorem nx_enc {n : Nat} (h : sane n) (hk : okc n = true) : nx (enc n) = (n, (enc n).length) := by
  rw [nx_eq, dc_enc h, hk]
  have : (n == 65533 && (enc n).length == 1) = false := by
    cases e : (n == 65533 && (enc n).length == 1) with
    | false => rfl
    | true =>
      exfalso
      simp only [Bool.and_eq_true, beq_iff_eq] at e
      have := enc_big h (by omega)
      omega
  simp only [this]
  rfl
theorem ch_enc {n : Nat} (h : sane n) (hk : okc n = true) : ch (enc n) = some [n] := by
  have e := nx_enc h hk
  have := (enc_len (n := n)).1
  have h2 : (nx (enc n)).2 ≠ 0 := by rw [e]; intro h0; simp only at h0; omega
  rw [ch_good (enc_ne n) h2, e]
  simp only
  rw [List.drop_length, ch_nil]
  rfl
attribute [irreducible] enc
end Go.Proofs.YtapelnndjjbeeaaGreatDoor.Tx
end
section
/- what is reached of it -/
namespace Go.Proofs.YtapelnndjjbeeaaGreatDoor
open Tx
def charI (c : Int) : Bool := c == 9 || c == 10 || c == 13 || (decide (32 ≤ c) && decide (c < 55296)) || (decide (57343 < c) && decide (c < 65534)) || (decide (65535 < c) && decide (c ≤ 1114111))
theorem charI_nat (c : Nat) (h : c ≤ 1114111) (h2 : c < 55296 ∨ 57343 < c) : charI c = okc c := by
  rw [okc_eq]
  unfold charI
  rw [Bool.eq_iff_iff]
  simp
  omega
end Go.Proofs.YtapelnndjjbeeaaGreatDoor
end
section
/- what is reached of it -/
namespace Go.Proofs.YtapelnndjjbeeaaGreatDoor.Tx
open Go.Lib
/-- A row of characters, written. -/
def flat (cs : List Nat) : List UInt8 := cs.flatMap enc
theorem flat_nil : flat [] = [] := rfl
theorem flat_append (a b : List Nat) : flat (a ++ b) = flat a ++ flat b := by simp [flat]
theorem flat_one (c : Nat) : flat [c] = enc c := by simp [flat]
/-- Characters that a line may have. -/
def Good (cs : List Nat) : Prop := ∀ c ∈ cs, sane c ∧ okc c = true ∧ 32 ≤ c
theorem Good.nil : Good [] := fun c h => by cases h
theorem Good.take {cs : List Nat} (h : Good cs) (k : Nat) : Good (cs.take k) := fun c hc => h c (List.mem_of_mem_take hc)
theorem Good.drop {cs : List Nat} (h : Good cs) (k : Nat) : Good (cs.drop k) := fun c hc => h c (List.mem_of_mem_drop hc)
attribute [irreducible] flat
end Go.Proofs.YtapelnndjjbeeaaGreatDoor.Tx
end
section
/- what is reached of it -/
namespace Go.Proofs.YtapelnndjjbeeaaGreatDoor
open Go.RowKit Tx
theorem encodeRune_enc {v : Nat} (h : sane v) : Lib.encodeRune (v : Int) = enc v := by
  have h0 := h
  unfold sane at h0
  have tu : ∀ k : Nat, k.toUInt8 = UInt8.ofNat k := fun k => rfl
  unfold Lib.encodeRune Lib.encodeRuneZ
  rcases enc_cases h with ⟨a, e⟩ | ⟨a, b, e⟩ | ⟨a, b, e⟩ | ⟨a, b, e⟩ <;> rw [e]
  · rw [if_pos (by omega)]
    simp
  · rw [if_neg (by omega), if_pos (by omega)]
    simp only [List.map_cons, List.map_nil, tu]
    rw [show ((192 : Int) + (v : Int) / 64).toNat = 192 + v / 64 by omega, show ((128 : Int) + (v : Int) % 64).toNat = 128 + v % 64 by omega]
  · rw [if_neg (by omega), if_neg (by omega), if_pos (by omega)]
    simp only [List.map_cons, List.map_nil, tu]
    rw [show ((224 : Int) + (v : Int) / 4096).toNat = 224 + v / 4096 by omega, show ((128 : Int) + (v : Int) / 64 % 64).toNat = 128 + v / 64 % 64 by omega, show ((128 : Int) + (v : Int) % 64).toNat = 128 + v % 64 by omega]
  · rw [if_neg (by omega), if_neg (by omega), if_neg (by omega), if_pos (by omega)]
    simp only [List.map_cons, List.map_nil, tu]
    rw [show ((240 : Int) + (v : Int) / 262144).toNat = 240 + v / 262144 by omega, show ((128 : Int) + (v : Int) / 4096 % 64).toNat = 128 + v / 4096 % 64 by omega, show ((128 : Int) + (v : Int) / 64 % 64).toNat = 128 + v / 64 % 64 by omega, show ((128 : Int) + (v : Int) % 64).toNat = 128 + v % 64 by omega]
theorem dc_lib (l : List UInt8) : Lib.decodeL l = dc l := by
  have := Lib.decodeL_N l
  rw [this, dc_eq]
theorem enc_take {l : List UInt8} (hl : l ≠ []) (h : dc l ≠ (65533, 1)) : enc (dc l).1 = l.take (dc l).2 := by
  have h2 := Lib.encode_decode l hl (by rw [dc_lib]; rintro ⟨a, b⟩; exact h (Prod.ext a b))
  rw [dc_lib] at h2
  have hs : sane (dc l).1 := by
    have h3 := dc_valid l
    have h4 := dc_rune l
    unfold sane
    omega
  rw [← encodeRune_enc hs]
  exact h2
theorem ch_flat_back : ∀ (n : Nat) (l : List UInt8) (cs : List Nat), l.length ≤ n → ch l = some cs → flat cs = l
  | n, [], cs, _, h => by
    rw [ch_nil] at h
    obtain rfl : [] = cs := Option.some.inj h
    exact flat_nil
  | 0, _ :: _, _, h, _ => by simp at h
  | n + 1, a :: t, cs, hn, h => by
    by_cases hz : (nx (a :: t)).2 = 0
    · rw [ch_bad (by simp) hz] at h; cases h
    · obtain ⟨e, h1, h2⟩ := nx_some hz
      rw [ch_good (by simp) hz, e] at h
      have hge := dc_ge1 (a :: t)
      cases hr : ch ((a :: t).drop (dc (a :: t)).2) with
      | none => rw [hr] at h; cases h
      | some rest =>
        rw [hr] at h
        obtain rfl : (dc (a :: t)).1 :: rest = cs := Option.some.inj h
        have ih := ch_flat_back n _ rest (by rw [List.length_drop]; simp at hn ⊢; omega) hr
        rw [show (dc (a :: t)).1 :: rest = [(dc (a :: t)).1] ++ rest from rfl, flat_append, flat_one, ih, enc_take (by simp) h1, List.take_append_drop]
theorem ch_good_all : ∀ (n : Nat) (l : List UInt8) (cs : List Nat), l.length ≤ n → ch l = some cs → ∀ c ∈ cs, sane c ∧ okc c = true
  | n, [], cs, _, h => by
    rw [ch_nil] at h
    obtain rfl : [] = cs := Option.some.inj h
    intro c hc
    cases hc
  | 0, _ :: _, _, h, _ => by simp at h
  | n + 1, a :: t, cs, hn, h => by
    by_cases hz : (nx (a :: t)).2 = 0
    · rw [ch_bad (by simp) hz] at h; cases h
    · obtain ⟨e, h1, h2⟩ := nx_some hz
      rw [ch_good (by simp) hz, e] at h
      have hge := dc_ge1 (a :: t)
      cases hr : ch ((a :: t).drop (dc (a :: t)).2) with
      | none => rw [hr] at h; cases h
      | some rest =>
        rw [hr] at h
        obtain rfl : (dc (a :: t)).1 :: rest = cs := Option.some.inj h
        intro c hc
        rcases List.mem_cons.1 hc with rfl | hc
        · refine ⟨?_, h2⟩
          have h3 := dc_valid (a :: t)
          have h4 := dc_rune (a :: t)
          unfold sane
          omega
        · exact ch_good_all n _ rest (by rw [List.length_drop]; simp at hn ⊢; omega) hr c hc
end Go.Proofs.YtapelnndjjbeeaaGreatDoor
end
