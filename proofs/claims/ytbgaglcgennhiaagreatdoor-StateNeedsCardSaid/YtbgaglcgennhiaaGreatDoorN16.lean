import Derived.Test.YtbgaglcgennhiaaGreatDoorRows
import Derived.Test.YtbgaglcgennhiaaGreatDoorN04
import Derived.WalkKit
import Derived.WalkSpells
import Derived.WalkLawsBesides
import Derived.Deep.QuietTactic
import Derived.BigQuiet
import Derived.Lib.MapLaws
import Derived.Lib.Join
import Derived.Lib.SplitLaws
section
/- what is reached of it -/
namespace Go.Proofs.YtbgaglcgennhiaaGreatDoor
open Go.RowKit
theorem infoInt : (Tryz.prog.info? 3).map (fun i => (i.zero, i.size, i.bytes)) = some (some (.int .i64 0), 1, 8) := by kernel_rfl

/-- Integers as values. -/
def ints (x : List Nat) : List Value := x.map fun c => .int .i64 (c : Nat)
theorem ints_length (x : List Nat) : (ints x).length = x.length := List.length_map _
theorem ints_snoc (x : List Nat) (c : Nat) : ints (x ++ [c]) = ints x ++ [.int .i64 (c : Nat)] := by simp [ints]
theorem ints_get (x : List Nat) (i : Nat) (h : i < x.length) : (ints x)[i]? = some (.int .i64 (x.getD i 0 : Nat)) := by
  simp [ints, List.getElem?_map, List.getD, List.getElem?_eq_getElem h]
theorem ints_one (a : Nat) : (ints [a]).toArray = #[.int .i64 (a : Nat)] := rfl
theorem ints_two (a b : Nat) : (ints [a, b]).toArray = #[.int .i64 (a : Nat), .int .i64 (b : Nat)] := rfl
theorem ints_append (x y : List Nat) : ints (x ++ y) = ints x ++ ints y := by simp [ints]
theorem ints_cells (x : List Nat) : ∀ u ∈ ints x, u.oneCell' = true := by
  intro u hu
  obtain ⟨c, _, rfl⟩ := List.mem_map.1 hu
  rfl
attribute [irreducible] ints
/-- The slice v, made by the call (above block B), holds just the numbers x. -/
def Owned (B : Nat) (w : World) (v : Value) (x : List Nat) : Prop := w.ownsRow B 3 1 v x.length (ints x)
theorem Owned.nil (B : Nat) (w : World) : Owned B w (.slice none 0 0) [] := by
  unfold Owned
  rw [show ints [] = [] from by unfold ints; rfl]
  exact World.ownsRow_nil _ _ _ _
theorem Owned.below {B : Nat} {w w' : World} {v : Value} {x : List Nat} (h : Owned B w v x) (hb : Below w.heap.size w w') : Owned B w' v x := by
  have h' : w.ownsRow B 3 1 v x.length (ints x) := h
  refine h'.kept (w' := w') (row := some w.heap.size) ⟨hb.os, hb.tape, hb.output, hb.size, fun i hi _ => hb.block i hi⟩ ?_
  cases ho : v.ownBlock with
  | none => exact .inl rfl
  | some g => exact .inr (fun e => by have := (h'.lt g ho).2; injection e with e; omega)
/-- behind an append: one number more. -/
def Pushed (B : Nat) (w : World) (x : List Nat) (c : Nat) (e : Ending) (w' : World) : Prop := ∃ v', e = .returned v' ∧ Owned B w' v' (x ++ [c]) ∧ Below B w w'
theorem pushed_of {B : Nat} {w w1 : World} {v v' : Value} {x : List Nat} {c : Nat} {o : Obj} (hown : Owned B w v x) (hB : B ≤ w.heap.size)
    (hown' : w1.ownsRow B 3 1 v' (x.length + 1) (ints x ++ [.int .i64 (c : Nat)])) (hg : (w.alloc o).grownBy w1 v.ownBlock) : Owned B w1 v' (x ++ [c]) ∧ Below B w w1 := by
  refine ⟨by unfold Owned; rw [ints_snoc]; simpa using hown', ?_⟩
  exact ((Below.refl B w).alloc hB o).grown hg (by simp; omega) (fun j hj => (hown.lt j hj).1)

/-- A slice that can be read: it holds just the numbers x, below block B (nil and empty ones too). -/
def Reads (B : Nat) (w : World) (v : Value) (x : List Nat) : Prop :=
  ∃ A cap, v = .slice A x.length cap ∧ (0 < x.length → ∃ ad : Addr, A = some ad ∧ ad.block < B ∧ ∀ i, i < x.length → w.cell? (ad.add i) = some (.int .i64 (x.getD i 0 : Nat)))
theorem Reads.below {B : Nat} {w w' : World} {v : Value} {x : List Nat} (h : Reads B w v x) (hb : Below B w w') : Reads B w' v x := by
  obtain ⟨A, cap, rfl, h2⟩ := h
  refine ⟨A, cap, rfl, fun h0 => ?_⟩
  obtain ⟨ad, rfl, hl, hc⟩ := h2 h0
  refine ⟨ad, rfl, hl, fun i hi => (hb.cell ?_).trans (hc i hi)⟩
  have : (ad.add i).block = ad.block := by unfold Addr.add; split <;> rfl
  omega
theorem Reads.more {B C : Nat} {w : World} {v : Value} {x : List Nat} (h : Reads B w v x) (hB : B ≤ C) : Reads C w v x := by
  obtain ⟨A, cap, rfl, h2⟩ := h
  refine ⟨A, cap, rfl, fun h0 => ?_⟩
  obtain ⟨ad, rfl, hl, hc⟩ := h2 h0
  exact ⟨ad, rfl, by omega, hc⟩
theorem Owned.reads {B : Nat} {w : World} {v : Value} {x : List Nat} (h : Owned B w v x) : Reads w.heap.size w v x := by
  have h' : w.ownsRow B 3 1 v x.length (ints x) := h
  rcases h'.2 with ⟨rfl, h0⟩ | ⟨g, cap, cur, rfl, _, hh, _⟩
  · exact ⟨none, 0, by rw [h0], fun h => absurd h (by omega)⟩
  · refine ⟨_, cap, rfl, fun h0 => ⟨_, rfl, lt_of_block hh, fun i hi => ?_⟩⟩
    exact h'.cells (g := g) rfl i _ (ints_get x i hi)
/-- What an append reads of such a slice: nil, or its cells. -/
theorem Owned.source {B : Nat} {w : World} {v : Value} {x : List Nat} (h : Owned B w v x) {A : Option Addr} {n cap : Nat} (hv : v = .slice A n cap) :
    (A = none ∧ cap = 0 ∧ x = []) ∨ ∃ ad, A = some ad ∧ ∀ j u, (ints x)[j]? = some u → w.cell? (ad.add j) = some u := by
  have h' : w.ownsRow B 3 1 v x.length (ints x) := h
  rcases h'.2 with ⟨hn, h0⟩ | ⟨g, cap', cur, hg, _, hh, _⟩
  · rw [hv] at hn
    injection hn with h1 h2 h3
    exact .inl ⟨h1, h3, List.eq_nil_of_length_eq_zero h0⟩
  · rw [hv] at hg
    injection hg with h1 h2 h3
    exact .inr ⟨_, h1, fun j u hj => h'.cells (g := g) (by rw [hv, h1]; rfl) j u hj⟩
/-- A list that the text writes out. -/
theorem Reads.made (w : World) (t : TypeId) (x : List Nat) (cs : Array Value) (cap n : Nat) (hcs : (ints x).toArray = cs) (hn : x.length = n) : Reads (w.heap.size + 1) (w.alloc (.cells cs t)) (.slice (some ⟨w.heap.size, 0, none⟩) n cap) x := by
  subst hcs
  subst hn
  refine ⟨_, cap, rfl, fun _ => ⟨_, rfl, Nat.lt_succ_self _, fun i hi => ?_⟩⟩
  have hb := Bk.new w t (ints x).toArray
  have := hb.cell i
  have e : (⟨w.heap.size, 0, none⟩ : Addr).add i = ⟨w.heap.size, i, none⟩ := by unfold Addr.add; split <;> simp_all
  rw [e, this, List.getElem?_toArray, ints_get x i hi]
end Go.Proofs.YtbgaglcgennhiaaGreatDoor
end
section
/- what is reached of it -/
namespace Go.Proofs.YtbgaglcgennhiaaGreatDoor
open Go.RowKit Tx
theorem encodeRune_enc {v : Nat} (h : sane v) : Lib.encodeRune (v : Int) = enc v := by
  have h0 := h
  unfold sane at h0
  have tu : ∀ k : Nat, k.toUInt8 = UInt8.ofNat k := fun k => rfl
  unfold Lib.encodeRune Lib.encodeRuneZ
  rcases enc_cases h with ⟨a, e⟩ | ⟨a, b, e⟩ | ⟨a, b, e⟩ | ⟨a, b, e⟩ <;> rw [e]
  · rw [if_pos (by omega)]
    simp
  · rw [if_neg (by omega), if_pos (by omega)]
    simp only [List.map_cons, List.map_nil, tu]
    rw [show ((192 : Int) + (v : Int) / 64).toNat = 192 + v / 64 by omega, show ((128 : Int) + (v : Int) % 64).toNat = 128 + v % 64 by omega]
  · rw [if_neg (by omega), if_neg (by omega), if_pos (by omega)]
    simp only [List.map_cons, List.map_nil, tu]
    rw [show ((224 : Int) + (v : Int) / 4096).toNat = 224 + v / 4096 by omega, show ((128 : Int) + (v : Int) / 64 % 64).toNat = 128 + v / 64 % 64 by omega, show ((128 : Int) + (v : Int) % 64).toNat = 128 + v % 64 by omega]
  · rw [if_neg (by omega), if_neg (by omega), if_neg (by omega), if_pos (by omega)]
    simp only [List.map_cons, List.map_nil, tu]
    rw [show ((240 : Int) + (v : Int) / 262144).toNat = 240 + v / 262144 by omega, show ((128 : Int) + (v : Int) / 4096 % 64).toNat = 128 + v / 4096 % 64 by omega, show ((128 : Int) + (v : Int) / 64 % 64).toNat = 128 + v / 64 % 64 by omega, show ((128 : Int) + (v : Int) % 64).toNat = 128 + v % 64 by omega]
theorem dc_lib (l : List UInt8) : Lib.decodeL l = dc l := by
  have := Lib.decodeL_N l
  rw [this, dc_eq]
theorem enc_take {l : List UInt8} (hl : l ≠ []) (h : dc l ≠ (65533, 1)) : enc (dc l).1 = l.take (dc l).2 := by
  have h2 := Lib.encode_decode l hl (by rw [dc_lib]; rintro ⟨a, b⟩; exact h (Prod.ext a b))
  rw [dc_lib] at h2
  have hs : sane (dc l).1 := by
    have h3 := dc_valid l
    have h4 := dc_rune l
    unfold sane
    omega
  rw [← encodeRune_enc hs]
  exact h2
theorem ch_flat_back : ∀ (n : Nat) (l : List UInt8) (cs : List Nat), l.length ≤ n → ch l = some cs → flat cs = l
  | n, [], cs, _, h => by
    rw [ch_nil] at h
    obtain rfl : [] = cs := Option.some.inj h
    exact flat_nil
  | 0, _ :: _, _, h, _ => by simp at h
  | n + 1, a :: t, cs, hn, h => by
    by_cases hz : (nx (a :: t)).2 = 0
    · rw [ch_bad (by simp) hz] at h; cases h
    · obtain ⟨e, h1, h2⟩ := nx_some hz
      rw [ch_good (by simp) hz, e] at h
      have hge := dc_ge1 (a :: t)
      cases hr : ch ((a :: t).drop (dc (a :: t)).2) with
      | none => rw [hr] at h; cases h
      | some rest =>
        rw [hr] at h
        obtain rfl : (dc (a :: t)).1 :: rest = cs := Option.some.inj h
        have ih := ch_flat_back n _ rest (by rw [List.length_drop]; simp at hn ⊢; omega) hr
        rw [show (dc (a :: t)).1 :: rest = [(dc (a :: t)).1] ++ rest from rfl, flat_append, flat_one, ih, enc_take (by simp) h1, List.take_append_drop]
theorem ch_good_all : ∀ (n : Nat) (l : List UInt8) (cs : List Nat), l.length ≤ n → ch l = some cs → ∀ c ∈ cs, sane c ∧ okc c = true
  | n, [], cs, _, h => by
    rw [ch_nil] at h
    obtain rfl : [] = cs := Option.some.inj h
    intro c hc
    cases hc
  | 0, _ :: _, _, h, _ => by simp at h
  | n + 1, a :: t, cs, hn, h => by
    by_cases hz : (nx (a :: t)).2 = 0
    · rw [ch_bad (by simp) hz] at h; cases h
    · obtain ⟨e, h1, h2⟩ := nx_some hz
      rw [ch_good (by simp) hz, e] at h
      have hge := dc_ge1 (a :: t)
      cases hr : ch ((a :: t).drop (dc (a :: t)).2) with
      | none => rw [hr] at h; cases h
      | some rest =>
        rw [hr] at h
        obtain rfl : (dc (a :: t)).1 :: rest = cs := Option.some.inj h
        intro c hc
        rcases List.mem_cons.1 hc with rfl | hc
        · refine ⟨?_, h2⟩
          have h3 := dc_valid (a :: t)
          have h4 := dc_rune (a :: t)
          unfold sane
          omega
        · exact ch_good_all n _ rest (by rw [List.length_drop]; simp at hn ⊢; omega) hr c hc
end Go.Proofs.YtbgaglcgennhiaaGreatDoor
end
section
/- what is reached of it -/
namespace Go.Proofs.YtbgaglcgennhiaaGreatDoor.Tx
open Go.Lib
def chsF : Nat → List UInt8 → List (List UInt8)
  | 0, _ => []
  | f + 1, l => if l = [] then [] else l.take (dc l).2 :: chsF f (l.drop (dc l).2)
def chs (l : List UInt8) : List (List UInt8) := chsF l.length l
theorem chsF_nil (f : Nat) : chsF f [] = [] := by cases f <;> rfl
theorem chsF_succ (f : Nat) {l : List UInt8} (h : l ≠ []) : chsF (f + 1) l = l.take (dc l).2 :: chsF f (l.drop (dc l).2) := if_neg h
theorem chsF_enough : ∀ (f g : Nat) (l : List UInt8), l.length ≤ f → l.length ≤ g → chsF f l = chsF g l
  | f, g, [], _, _ => by rw [chsF_nil, chsF_nil]
  | 0, _, _ :: _, h, _ => by simp at h
  | _ + 1, 0, _ :: _, _, h => by simp at h
  | f + 1, g + 1, a :: l, hf, hg => by
    have := dc_ge1 (a :: l)
    rw [chsF_succ f (by simp), chsF_succ g (by simp), chsF_enough f g _ (by rw [List.length_drop]; simp at hf ⊢; omega) (by rw [List.length_drop]; simp at hg ⊢; omega)]
theorem chs_nil : chs [] = [] := rfl
theorem chs_step {l : List UInt8} (hl : l ≠ []) : chs l = l.take (dc l).2 :: chs (l.drop (dc l).2) := by
  cases l with
  | nil => exact absurd rfl hl
  | cons a t =>
    have := dc_ge1 (a :: t)
    unfold chs
    rw [List.length_cons, chsF_succ _ hl, chsF_enough t.length _ _ (by rw [List.length_drop]; simp; omega) (Nat.le_refl _)]
/-- The rows that characters make, where the open one is cur, and has room for so many bytes. -/
def frows : Nat → List UInt8 → List (List UInt8) → List (List UInt8)
  | _, cur, [] => [cur]
  | room, cur, c :: t => if room < c.length then cur :: frows (74 - c.length) (32 :: c) t else frows (room - c.length) (cur ++ c) t
def rowsOf (l : List UInt8) : List (List UInt8) := frows 75 [] (chs l)
def ends (rs : List (List UInt8)) : List UInt8 := rs.flatMap (· ++ [13, 10])
def foldOne (l : List UInt8) : List UInt8 := ends (rowsOf l)
def foldL (m : List (List UInt8)) : List UInt8 := m.flatMap foldOne
theorem ends_nil : ends [] = [] := rfl
theorem ends_cons (r : List UInt8) (t : List (List UInt8)) : ends (r :: t) = r ++ 13 :: 10 :: ends t := by simp [ends]
theorem ends_append (a b : List (List UInt8)) : ends (a ++ b) = ends a ++ ends b := by simp [ends]
/-- The same, as the document's own loop goes. -/
def fr : Nat → List (List UInt8) → List UInt8
  | _, [] => [13, 10]
  | room, c :: t => if room < c.length then [13, 10, 32] ++ c ++ fr (74 - c.length) t else c ++ fr (room - c.length) t
theorem frows_fr : ∀ (cs : List (List UInt8)) (room : Nat) (cur : List UInt8), ends (frows room cur cs) = cur ++ fr room cs
  | [], _, cur => by simp [frows, fr, ends]
  | c :: t, room, cur => by
    unfold frows fr
    by_cases h : room < c.length
    · rw [if_pos h, if_pos h, ends_cons, frows_fr t]
      simp
    · rw [if_neg h, if_neg h, frows_fr t]
      simp
theorem foldOne_fr (l : List UInt8) : foldOne l = fr 75 (chs l) := by
  unfold foldOne rowsOf
  rw [frows_fr, List.nil_append]
theorem fr_nil (room : Nat) : fr room [] = [13, 10] := rfl
theorem fr_cut {room : Nat} {c : List UInt8} (t : List (List UInt8)) (h : room < c.length) : fr room (c :: t) = [13, 10, 32] ++ c ++ fr (74 - c.length) t := by
  rw [fr, if_pos h]
section
variable {α : Type}
/-- the same by places: where each row begins, and ends -/
def ivs : Nat → Nat → List Bool → List (Nat × Nat)
  | o, k, [] => [(o, k)]
  | o, k, b :: bs => if b then (o, k) :: ivs k (k + 1) bs else ivs o (k + 1) bs
theorem take_snoc {ps : List α} {p : α} {t : List α} {o k : Nat} (h : ps.drop k = p :: t) (ho : o ≤ k) : (ps.drop o).take (k + 1 - o) = (ps.drop o).take (k - o) ++ [p] := by
  have hk : (ps.drop o)[k - o]? = some p := by
    rw [List.getElem?_drop, show o + (k - o) = k by omega]
    have := congrArg List.head? h
    simpa using this
  rw [show k + 1 - o = k - o + 1 by omega, List.take_add_one, hk]
  rfl
end
end Go.Proofs.YtbgaglcgennhiaaGreatDoor.Tx
end
section
/- what is reached of it -/
namespace Go.Proofs.YtbgaglcgennhiaaGreatDoor.Tx
def valB (c : UInt8) : List UInt8 := if c = 92 ∨ c = 44 ∨ c = 59 then [92, c] else if c = 10 then [92, 110] else if c = 13 then [] else [c]
/-- A text as a value. -/
def val (l : List UInt8) : List UInt8 := l.flatMap valB
/-- What a "\" makes of the byte behind it. -/
def unb (c : UInt8) : Option UInt8 := if c = 92 ∨ c = 44 ∨ c = 59 then some c else if c = 110 ∨ c = 78 then some 10 else none
/-- The text that a value is. -/
def plain : List UInt8 → Option (List UInt8)
  | [] => some []
  | c :: t => if c = 92 then (match t with
    | [] => none
    | d :: u => match unb d with
      | some x => (plain u).map (x :: ·)
      | none => none) else (plain t).map (c :: ·)
theorem plain_nil : plain [] = some [] := rfl
theorem plain_end : plain [92] = none := by unfold plain; rw [if_pos rfl]
theorem plain_bad {d : UInt8} (u : List UInt8) (h : unb d = none) : plain (92 :: d :: u) = none := by
  unfold plain
  rw [if_pos rfl]
  simp only [h]
theorem plain_esc {d x : UInt8} (u : List UInt8) (h : unb d = some x) : plain (92 :: d :: u) = (plain u).map (x :: ·) := by
  conv => lhs; unfold plain
  rw [if_pos rfl]
  simp only [h]
theorem plain_on {c : UInt8} (t : List UInt8) (h : c ≠ 92) : plain (c :: t) = (plain t).map (c :: ·) := by
  conv => lhs; unfold plain
  rw [if_neg h]
theorem plain_run : ∀ (p t : List UInt8), (∀ c ∈ p, c ≠ 92) → plain (p ++ t) = (plain t).map (p ++ ·)
  | [], t, _ => by rw [List.nil_append]; cases plain t <;> rfl
  | c :: p, t, h => by
    rw [List.cons_append, plain_on _ (h c (by simp)), plain_run p t (fun d hd => h d (by simp [hd]))]
    cases plain t <;> rfl
def spl (sep : UInt8) : Bool → List UInt8 → List UInt8 → List (List UInt8)
  | _, cur, [] => [cur]
  | e, cur, c :: t => if c = sep ∧ e = false then cur :: spl sep (c == 92 && !e) [] t else spl sep (c == 92 && !e) (cur ++ [c]) t
theorem spl_nil (sep : UInt8) (e : Bool) (cur : List UInt8) : spl sep e cur [] = [cur] := rfl
theorem spl_cut {sep : UInt8} {e : Bool} (cur : List UInt8) {c : UInt8} (t : List UInt8) (h : c = sep ∧ e = false) : spl sep e cur (c :: t) = cur :: spl sep (c == 92 && !e) [] t := by
  conv => lhs; unfold spl
  rw [if_pos h]
/-- all but the first one without their first byte -/
def tails : List (List UInt8) → List (List UInt8)
  | [] => []
  | h :: t => h :: t.map List.tail
def split1 (sep : UInt8) (l : List UInt8) : List (List UInt8) := spl sep false [] l
end Go.Proofs.YtbgaglcgennhiaaGreatDoor.Tx
end
section
/- what is reached of it -/
namespace Go.Proofs.YtbgaglcgennhiaaGreatDoor
open Go.RowKit Tx
/-- strings out of lists of bytes -/
def sts (l : List (List UInt8)) : List ByteArray := l.map fun x => ⟨x.toArray⟩
/-- how the document's loop stands: acc are told, the open piece goes from f to k -/
def SStand (sep : UInt8) (l : List UInt8) (acc : List (List UInt8)) (f k : Nat) (e : Bool) : Prop := f ≤ k ∧ k ≤ l.length ∧ acc.length ≤ f ∧ split1 sep l = acc ++ spl sep e ((l.drop f).take (k - f)) (l.drop k)
theorem SStand.start (sep : UInt8) (l : List UInt8) : SStand sep l [] 0 0 false := ⟨Nat.le_refl _, Nat.zero_le _, Nat.le_refl _, by simp [split1]⟩
theorem SStand.done {sep : UInt8} {l : List UInt8} {acc : List (List UInt8)} {f k : Nat} {e : Bool} (h : SStand sep l acc f k e) (hk : l.length ≤ k) : split1 sep l = acc ++ [l.drop f] := by
  obtain ⟨h1, h2, _, h3⟩ := h
  rw [h3, List.drop_eq_nil_of_le hk, spl_nil, List.take_of_length_le (by rw [List.length_drop]; omega)]
theorem SStand.cut {sep c : UInt8} {l : List UInt8} {acc : List (List UInt8)} {f k : Nat} {e : Bool} (h : SStand sep l acc f k e) (hc : l[k]? = some c) (hs : c = sep ∧ e = false) : SStand sep l (acc ++ [(l.drop f).take (k - f)]) (k + 1) (k + 1) (c == 92 && !e) := by
  obtain ⟨h1, h2, h4, h3⟩ := h
  obtain ⟨hk, he⟩ := List.getElem?_eq_some_iff.1 hc
  refine ⟨Nat.le_refl _, hk, by rw [List.length_append, List.length_singleton]; omega, ?_⟩
  rw [h3, List.drop_eq_getElem_cons hk, he, spl_cut _ _ hs]
  simp
end Go.Proofs.YtbgaglcgennhiaaGreatDoor
end
