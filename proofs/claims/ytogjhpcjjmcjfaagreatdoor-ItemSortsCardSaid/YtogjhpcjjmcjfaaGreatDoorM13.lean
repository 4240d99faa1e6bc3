import Derived.Test.YtogjhpcjjmcjfaaGreatDoorRows
import Derived.Test.YtogjhpcjjmcjfaaGreatDoorM04
import Derived.WalkKit
import Derived.WalkSpells
import Derived.WalkLawsBesides
import Derived.Deep.QuietTactic
import Derived.BigQuiet
import Derived.Lib.MapLaws
import Derived.Test.YtogjhpcjjmcjfaaGreatDoorM02
import Derived.Test.YtogjhpcjjmcjfaaGreatDoorM11
import Derived.Lib.Hide
import Derived.Deep.RegionLaw
section
/- what is reached of it -/
namespace Go.Proofs.YtogjhpcjjmcjfaaGreatDoor
open Go.RowKit
theorem infoInt : (Tryz.prog.info? 3).map (fun i => (i.zero, i.size, i.bytes)) = some (some (.int .i64 0), 1, 8) := by kernel_rfl

/-- Integers as values. -/
def ints (x : List Nat) : List Value := x.map fun c => .int .i64 (c : Nat)
theorem ints_length (x : List Nat) : (ints x).length = x.length := List.length_map _
theorem ints_snoc (x : List Nat) (c : Nat) : ints (x ++ [c]) = ints x ++ [.int .i64 (c : Nat)] := by simp [ints]
theorem ints_get (x : List Nat) (i : Nat) (h : i < x.length) : (ints x)[i]? = some (.int .i64 (x.getD i 0 : Nat)) := by
  simp [ints, List.getElem?_map, List.getD, List.getElem?_eq_getElem h]
theorem ints_one (a : Nat) : (ints [a]).toArray = #[.int .i64 (a : Nat)] := rfl
theorem ints_two (a b : Nat) : (ints [a, b]).toArray = #[.int .i64 (a : Nat), .int .i64 (b : Nat)] := rfl
theorem ints_append (x y : List Nat) : ints (x ++ y) = ints x ++ ints y := by simp [ints]
theorem ints_cells (x : List Nat) : ∀ u ∈ ints x, u.oneCell' = true := by
  intro u hu
  obtain ⟨c, _, rfl⟩ := List.mem_map.1 hu
  rfl
attribute [irreducible] ints
/-- The slice v, made by the call (above block B), holds just the numbers x. -/
def Owned (B : Nat) (w : World) (v : Value) (x : List Nat) : Prop := w.ownsRow B 3 1 v x.length (ints x)
theorem Owned.nil (B : Nat) (w : World) : Owned B w (.slice none 0 0) [] := by
  unfold Owned
  rw [show ints [] = [] from by unfold ints; rfl]
  exact World.ownsRow_nil _ _ _ _
theorem Owned.below {B : Nat} {w w' : World} {v : Value} {x : List Nat} (h : Owned B w v x) (hb : Below w.heap.size w w') : Owned B w' v x := by
  have h' : w.ownsRow B 3 1 v x.length (ints x) := h
  refine h'.kept (w' := w') (row := some w.heap.size) ⟨hb.os, hb.tape, hb.output, hb.size, fun i hi _ => hb.block i hi⟩ ?_
  cases ho : v.ownBlock with
  | none => exact .inl rfl
  | some g => exact .inr (fun e => by have := (h'.lt g ho).2; injection e with e; omega)
/-- behind an append: one number more. -/
def Pushed (B : Nat) (w : World) (x : List Nat) (c : Nat) (e : Ending) (w' : World) : Prop := ∃ v', e = .returned v' ∧ Owned B w' v' (x ++ [c]) ∧ Below B w w'
theorem pushed_of {B : Nat} {w w1 : World} {v v' : Value} {x : List Nat} {c : Nat} {o : Obj} (hown : Owned B w v x) (hB : B ≤ w.heap.size)
    (hown' : w1.ownsRow B 3 1 v' (x.length + 1) (ints x ++ [.int .i64 (c : Nat)])) (hg : (w.alloc o).grownBy w1 v.ownBlock) : Owned B w1 v' (x ++ [c]) ∧ Below B w w1 := by
  refine ⟨by unfold Owned; rw [ints_snoc]; simpa using hown', ?_⟩
  exact ((Below.refl B w).alloc hB o).grown hg (by simp; omega) (fun j hj => (hown.lt j hj).1)

/-- A slice that can be read: it holds just the numbers x, below block B (nil and empty ones too). -/
def Reads (B : Nat) (w : World) (v : Value) (x : List Nat) : Prop :=
  ∃ A cap, v = .slice A x.length cap ∧ (0 < x.length → ∃ ad : Addr, A = some ad ∧ ad.block < B ∧ ∀ i, i < x.length → w.cell? (ad.add i) = some (.int .i64 (x.getD i 0 : Nat)))
theorem Reads.below {B : Nat} {w w' : World} {v : Value} {x : List Nat} (h : Reads B w v x) (hb : Below B w w') : Reads B w' v x := by
  obtain ⟨A, cap, rfl, h2⟩ := h
  refine ⟨A, cap, rfl, fun h0 => ?_⟩
  obtain ⟨ad, rfl, hl, hc⟩ := h2 h0
  refine ⟨ad, rfl, hl, fun i hi => (hb.cell ?_).trans (hc i hi)⟩
  have : (ad.add i).block = ad.block := by unfold Addr.add; split <;> rfl
  omega
theorem Reads.more {B C : Nat} {w : World} {v : Value} {x : List Nat} (h : Reads B w v x) (hB : B ≤ C) : Reads C w v x := by
  obtain ⟨A, cap, rfl, h2⟩ := h
  refine ⟨A, cap, rfl, fun h0 => ?_⟩
  obtain ⟨ad, rfl, hl, hc⟩ := h2 h0
  exact ⟨ad, rfl, by omega, hc⟩
theorem Owned.reads {B : Nat} {w : World} {v : Value} {x : List Nat} (h : Owned B w v x) : Reads w.heap.size w v x := by
  have h' : w.ownsRow B 3 1 v x.length (ints x) := h
  rcases h'.2 with ⟨rfl, h0⟩ | ⟨g, cap, cur, rfl, _, hh, _⟩
  · exact ⟨none, 0, by rw [h0], fun h => absurd h (by omega)⟩
  · refine ⟨_, cap, rfl, fun h0 => ⟨_, rfl, lt_of_block hh, fun i hi => ?_⟩⟩
    exact h'.cells (g := g) rfl i _ (ints_get x i hi)
/-- What an append reads of such a slice: nil, or its cells. -/
theorem Owned.source {B : Nat} {w : World} {v : Value} {x : List Nat} (h : Owned B w v x) {A : Option Addr} {n cap : Nat} (hv : v = .slice A n cap) :
    (A = none ∧ cap = 0 ∧ x = []) ∨ ∃ ad, A = some ad ∧ ∀ j u, (ints x)[j]? = some u → w.cell? (ad.add j) = some u := by
  have h' : w.ownsRow B 3 1 v x.length (ints x) := h
  rcases h'.2 with ⟨hn, h0⟩ | ⟨g, cap', cur, hg, _, hh, _⟩
  · rw [hv] at hn
    injection hn with h1 h2 h3
    exact .inl ⟨h1, h3, List.eq_nil_of_length_eq_zero h0⟩
  · rw [hv] at hg
    injection hg with h1 h2 h3
    exact .inr ⟨_, h1, fun j u hj => h'.cells (g := g) (by rw [hv, h1]; rfl) j u hj⟩
/-- A list that the text writes out. -/
theorem Reads.made (w : World) (t : TypeId) (x : List Nat) (cs : Array Value) (cap n : Nat) (hcs : (ints x).toArray = cs) (hn : x.length = n) : Reads (w.heap.size + 1) (w.alloc (.cells cs t)) (.slice (some ⟨w.heap.size, 0, none⟩) n cap) x := by
  subst hcs
  subst hn
  refine ⟨_, cap, rfl, fun _ => ⟨_, rfl, Nat.lt_succ_self _, fun i hi => ?_⟩⟩
  have hb := Bk.new w t (ints x).toArray
  have := hb.cell i
  have e : (⟨w.heap.size, 0, none⟩ : Addr).add i = ⟨w.heap.size, i, none⟩ := by unfold Addr.add; split <;> simp_all
  rw [e, this, List.getElem?_toArray, ints_get x i hi]
end Go.Proofs.YtogjhpcjjmcjfaaGreatDoor
end
section
/- what is reached of it -/
namespace Go.Proofs.YtogjhpcjjmcjfaaGreatDoor
open Go.RowKit Tx
theorem encodeRune_enc {v : Nat} (h : sane v) : Lib.encodeRune (v : Int) = enc v := by
  have h0 := h
  unfold sane at h0
  have tu : ∀ k : Nat, k.toUInt8 = UInt8.ofNat k := fun k => rfl
  unfold Lib.encodeRune Lib.encodeRuneZ
  rcases enc_cases h with ⟨a, e⟩ | ⟨a, b, e⟩ | ⟨a, b, e⟩ | ⟨a, b, e⟩ <;> rw [e]
  · rw [if_pos (by omega)]
    simp
  · rw [if_neg (by omega), if_pos (by omega)]
    simp only [List.map_cons, List.map_nil, tu]
    rw [show ((192 : Int) + (v : Int) / 64).toNat = 192 + v / 64 by omega, show ((128 : Int) + (v : Int) % 64).toNat = 128 + v % 64 by omega]
  · rw [if_neg (by omega), if_neg (by omega), if_pos (by omega)]
    simp only [List.map_cons, List.map_nil, tu]
    rw [show ((224 : Int) + (v : Int) / 4096).toNat = 224 + v / 4096 by omega, show ((128 : Int) + (v : Int) / 64 % 64).toNat = 128 + v / 64 % 64 by omega, show ((128 : Int) + (v : Int) % 64).toNat = 128 + v % 64 by omega]
  · rw [if_neg (by omega), if_neg (by omega), if_neg (by omega), if_pos (by omega)]
    simp only [List.map_cons, List.map_nil, tu]
    rw [show ((240 : Int) + (v : Int) / 262144).toNat = 240 + v / 262144 by omega, show ((128 : Int) + (v : Int) / 4096 % 64).toNat = 128 + v / 4096 % 64 by omega, show ((128 : Int) + (v : Int) / 64 % 64).toNat = 128 + v / 64 % 64 by omega, show ((128 : Int) + (v : Int) % 64).toNat = 128 + v % 64 by omega]
theorem dc_lib (l : List UInt8) : Lib.decodeL l = dc l := by
  have := Lib.decodeL_N l
  rw [this, dc_eq]
theorem enc_take {l : List UInt8} (hl : l ≠ []) (h : dc l ≠ (65533, 1)) : enc (dc l).1 = l.take (dc l).2 := by
  have h2 := Lib.encode_decode l hl (by rw [dc_lib]; rintro ⟨a, b⟩; exact h (Prod.ext a b))
  rw [dc_lib] at h2
  have hs : sane (dc l).1 := by
    have h3 := dc_valid l
    have h4 := dc_rune l
    unfold sane
    omega
  rw [← encodeRune_enc hs]
  exact h2
theorem ch_flat_back : ∀ (n : Nat) (l : List UInt8) (cs : List Nat), l.length ≤ n → ch l = some cs → flat cs = l
  | n, [], cs, _, h => by
    rw [ch_nil] at h
    obtain rfl : [] = cs := Option.some.inj h
    exact flat_nil
  | 0, _ :: _, _, h, _ => by simp at h
  | n + 1, a :: t, cs, hn, h => by
    by_cases hz : (nx (a :: t)).2 = 0
    · rw [ch_bad (by simp) hz] at h; cases h
    · obtain ⟨e, h1, h2⟩ := nx_some hz
      rw [ch_good (by simp) hz, e] at h
      have hge := dc_ge1 (a :: t)
      cases hr : ch ((a :: t).drop (dc (a :: t)).2) with
      | none => rw [hr] at h; cases h
      | some rest =>
        rw [hr] at h
        obtain rfl : (dc (a :: t)).1 :: rest = cs := Option.some.inj h
        have ih := ch_flat_back n _ rest (by rw [List.length_drop]; simp at hn ⊢; omega) hr
        rw [show (dc (a :: t)).1 :: rest = [(dc (a :: t)).1] ++ rest from rfl, flat_append, flat_one, ih, enc_take (by simp) h1, List.take_append_drop]
theorem ch_good_all : ∀ (n : Nat) (l : List UInt8) (cs : List Nat), l.length ≤ n → ch l = some cs → ∀ c ∈ cs, sane c ∧ okc c = true
  | n, [], cs, _, h => by
    rw [ch_nil] at h
    obtain rfl : [] = cs := Option.some.inj h
    intro c hc
    cases hc
  | 0, _ :: _, _, h, _ => by simp at h
  | n + 1, a :: t, cs, hn, h => by
    by_cases hz : (nx (a :: t)).2 = 0
    · rw [ch_bad (by simp) hz] at h; cases h
    · obtain ⟨e, h1, h2⟩ := nx_some hz
      rw [ch_good (by simp) hz, e] at h
      have hge := dc_ge1 (a :: t)
      cases hr : ch ((a :: t).drop (dc (a :: t)).2) with
      | none => rw [hr] at h; cases h
      | some rest =>
        rw [hr] at h
        obtain rfl : (dc (a :: t)).1 :: rest = cs := Option.some.inj h
        intro c hc
        rcases List.mem_cons.1 hc with rfl | hc
        · refine ⟨?_, h2⟩
          have h3 := dc_valid (a :: t)
          have h4 := dc_rune (a :: t)
          unfold sane
          omega
        · exact ch_good_all n _ rest (by rw [List.length_drop]; simp at hn ⊢; omega) hr c hc
end Go.Proofs.YtogjhpcjjmcjfaaGreatDoor
end
section
/- what is reached of it -/
namespace Go.Proofs.YtogjhpcjjmcjfaaGreatDoor
open Rg
def lettersL : List R := [(65, 90), (97, 122), (192, 214), (216, 246), (248, 591), (880, 1327), (19968, 40959)]
def bannedL : List R := [(0, 31), (127, 160), (5760, 5760), (8192, 8202), (8232, 8239), (8287, 8287), (12288, 12288), (57344, 63743), (65533, 65535), (917504, 917631), (983040, 1114111)]
def rightLeftL : List R := [(1424, 1535), (1536, 1791), (64285, 64335)]
def goneL : List R := [(173, 173), (847, 847), (6150, 6150), (8203, 8205), (8288, 8288), (65024, 65039), (65279, 65279)]
end Go.Proofs.YtogjhpcjjmcjfaaGreatDoor
end
section
/- what is reached of it -/
namespace Go.Proofs.YtogjhpcjjmcjfaaGreatDoor.Pr
open Go.Proofs.YtogjhpcjjmcjfaaGreatDoor Rg Tx
def gone (c : Nat) : Bool := inL goneL c
def rl (c : Nat) : Bool := inL rightLeftL c
def letter (c : Nat) : Bool := inL lettersL c
/-- what a name of a user may not have beside what is banned -/
def besideBL : List R := [(32, 32), (34, 34), (38, 39), (47, 47), (58, 58), (60, 60), (62, 62), (64, 64)]
/-- what a name of a host may have beside letters -/
def besideLL : List R := [(45, 46), (48, 57)]
def capital (c : Nat) : Bool := decide (65 ≤ c) && decide (c ≤ 90) || decide (192 ≤ c) && decide (c ≤ 222) && !(c == 215)
/-- What a character becomes, in a name without capitals. -/
def small (c : Nat) : List Nat := if c = 223 then [115, 115] else if capital c then [c + 32] else [c]
def put (all : Bool) (c : Nat) : List Nat := if all then small c else [c]
def one (all : Bool) (c : Nat) : List Nat := if gone c then [] else put all c
def mapL (all : Bool) (l : List Nat) : List Nat := l.flatMap (one all)
/-- May the character not stand there? 1: a user's name, 2: a host's, 3: a resource. -/
def wrong : Nat → Nat → Bool
  | 1, c => inL bannedL c || inL besideBL c
  | 2, c => !(inL lettersL c || inL rightLeftL c || inL besideLL c)
  | _, c => inL bannedL c
/-- Is the way right? -/
def wayB (l : List Nat) : Bool := !(l.any rl) || (rl (l.headD 0) && rl (l.getLastD 0) && !(l.any letter))
/-- Are all kept? -/
def prepC (k : Nat) (l : List Nat) : List UInt8 × Nat := if l.any (wrong k) then ([], 15) else if wayB l then (flat l, 0) else ([], 16)
/-- A text as it is kept, or why not. -/
def prepL (k : Nat) (s : List UInt8) : List UInt8 × Nat := if valid s then prepC k (mapL (k != 3) (runes s)) else ([], 3)

theorem prepL_bad {k : Nat} {s : List UInt8} (h : valid s = false) : prepL k s = ([], 3) := by unfold prepL; rw [h]; rfl
theorem prepL_good {k : Nat} {s : List UInt8} (h : valid s = true) : prepL k s = prepC k (mapL (k != 3) (runes s)) := by unfold prepL; rw [h]; rfl
theorem prepC_char {k : Nat} {l : List Nat} (h : l.any (wrong k) = true) : prepC k l = ([], 15) := by unfold prepC; rw [h]; rfl
theorem prepC_ways {k : Nat} {l : List Nat} (h : l.any (wrong k) = false) (h2 : wayB l = false) : prepC k l = ([], 16) := by unfold prepC; rw [h, h2]; rfl
theorem prepC_kept {k : Nat} {l : List Nat} (h : l.any (wrong k) = false) (h2 : wayB l = true) : prepC k l = (flat l, 0) := by unfold prepC; rw [h, h2]; rfl
theorem prepL_ch {k : Nat} {s : List UInt8} {l : List Nat} (h : ch s = some l) : prepL k s = prepC k (mapL (k != 3) l) := by rw [prepL_good (valid_some h), runes_some h]

theorem gone_iff {c : Nat} : gone c = true ↔ c = 173 ∨ c = 847 ∨ c = 6150 ∨ 8203 ≤ c ∧ c ≤ 8205 ∨ c = 8288 ∨ 65024 ≤ c ∧ c ≤ 65039 ∨ c = 65279 := by
  simp [gone, inL, goneL]
  omega
theorem gone_small {c : Nat} (h : c < 173) : gone c = false := by
  cases e : gone c with
  | false => rfl
  | true => have := gone_iff.1 e; omega
theorem capital_iff {c : Nat} : capital c = true ↔ 65 ≤ c ∧ c ≤ 90 ∨ 192 ≤ c ∧ c ≤ 222 ∧ c ≠ 215 := by
  simp [capital]
  omega
/-- It stays as it is. -/
def Stays (all : Bool) (c : Nat) : Prop := one all c = [c]
theorem one_stays (all : Bool) (c : Nat) : ∀ d ∈ one all c, Stays all d := by
  intro d hd
  unfold one at hd
  cases hg : gone c with
  | true => rw [hg] at hd; simp at hd
  | false =>
    rw [hg, if_neg (by simp)] at hd
    unfold put at hd
    unfold Stays one
    cases all with
    | false =>
      simp at hd
      subst hd
      rw [hg, if_neg (by simp)]
      rfl
    | true =>
      simp only [if_true] at hd
      unfold small at hd
      have key : gone d = false ∧ d ≠ 223 ∧ capital d = false → (if gone d = true then [] else put true d) = [d] := by
        rintro ⟨h1, h2, h3⟩
        unfold put small
        rw [h1, h3, if_neg h2]
        rfl
      apply key
      by_cases h2 : c = 223
      · rw [if_pos h2] at hd
        simp at hd
        subst hd
        exact ⟨gone_small (by omega), by omega, by decide⟩
      · rw [if_neg h2] at hd
        cases hc : capital c with
        | false =>
          rw [hc] at hd
          simp at hd
          subst hd
          exact ⟨hg, h2, hc⟩
        | true =>
          rw [hc] at hd
          simp at hd
          subst hd
          have h3 := capital_iff.1 hc
          refine ⟨?_, by omega, ?_⟩
          · cases e : gone (c + 32) with
            | false => rfl
            | true => have := gone_iff.1 e; omega
          · cases e : capital (c + 32) with
            | false => rfl
            | true => have := capital_iff.1 e; omega
/-- A character that a text may have. -/
def Fine (c : Nat) : Prop := sane c ∧ okc c = true
theorem okc_of {c : Nat} (h : 32 ≤ c) (h2 : c < 65534) : okc c = true := by
  rw [okc_eq]
  simp
  omega
theorem one_fine (all : Bool) {c : Nat} (h : Fine c) : ∀ d ∈ one all c, Fine d := by
  intro d hd
  unfold one at hd
  cases hg : gone c with
  | true => rw [hg] at hd; simp at hd
  | false =>
    rw [hg, if_neg (by simp)] at hd
    unfold put at hd
    cases all with
    | false => simp at hd; subst hd; exact h
    | true =>
      simp only [if_true] at hd
      unfold small at hd
      by_cases h2 : c = 223
      · rw [if_pos h2] at hd
        simp at hd
        subst hd
        exact ⟨.inl (by omega), okc_of (by omega) (by omega)⟩
      · rw [if_neg h2] at hd
        cases hc : capital c with
        | false => rw [hc] at hd; simp at hd; subst hd; exact h
        | true =>
          rw [hc] at hd
          simp at hd
          subst hd
          have h3 := capital_iff.1 hc
          exact ⟨.inl (by omega), okc_of (by omega) (by omega)⟩
theorem ch_fine {l : List Nat} (h : ∀ c ∈ l, Fine c) : ch (flat l) = some l := by
  induction l with
  | nil => rw [flat_nil]; exact ch_nil
  | cons c l ih =>
    have hc := h c (List.mem_cons_self ..)
    rw [show c :: l = [c] ++ l from rfl, flat_append, flat_one]
    have := ch_append (b := flat l) (ch_enc hc.1 hc.2)
    rw [ih (fun d hd => h d (List.mem_cons_of_mem _ hd))] at this
    exact this
theorem mapL_stays {all : Bool} {l : List Nat} (h : ∀ c ∈ l, Stays all c) : mapL all l = l := by
  induction l with
  | nil => rfl
  | cons c l ih =>
    have hc : one all c = [c] := h c (List.mem_cons_self ..)
    have h2 := ih (fun d hd => h d (List.mem_cons_of_mem _ hd))
    unfold mapL at h2 ⊢
    rw [List.flatMap_cons, hc, h2]
    rfl
theorem mapL_each {all : Bool} {l : List Nat} {p : Nat → Prop} (h : ∀ c ∈ l, ∀ d ∈ one all c, p d) : ∀ d ∈ mapL all l, p d := by
  intro d hd
  obtain ⟨c, hc, hd⟩ := List.mem_flatMap.1 hd
  exact h c hc d hd
theorem prepC_ok {k : Nat} {l : List Nat} {a : List UInt8} (h : prepC k l = (a, 0)) : l.any (wrong k) = false ∧ wayB l = true ∧ a = flat l := by
  cases h1 : l.any (wrong k) with
  | true => rw [prepC_char h1] at h; simp at h
  | false =>
    cases h2 : wayB l with
    | false => rw [prepC_ways h1 h2] at h; simp at h
    | true => rw [prepC_kept h1 h2] at h; simp at h; exact ⟨rfl, rfl, h.symm⟩
/-- What is kept is kept as it is. -/
theorem prepL_stays {k : Nat} {s a : List UInt8} (h : prepL k s = (a, 0)) : prepL k a = (a, 0) := by
  cases hv : ch s with
  | none => rw [prepL_bad (valid_none hv)] at h; simp at h
  | some l =>
    rw [prepL_ch hv] at h
    obtain ⟨h1, h2, rfl⟩ := prepC_ok h
    have hf : ∀ c ∈ mapL (k != 3) l, Fine c := mapL_each fun c hc => one_fine _ (ch_good_all _ _ _ (Nat.le_refl _) hv c hc)
    have hs : ∀ c ∈ mapL (k != 3) l, Stays (k != 3) c := mapL_each fun c _ => one_stays _ c
    rw [prepL_ch (ch_fine hf), mapL_stays hs]
    exact h
theorem prepL_len (k : Nat) (s : List UInt8) : (prepL k s).1.length ≤ 8 * s.length := by
  cases hv : ch s with
  | none => rw [prepL_bad (valid_none hv)]; simp
  | some l =>
    rw [prepL_ch hv]
    have hl := ch_length _ _ _ (Nat.le_refl _) hv
    have h1 : ∀ x : List Nat, (flat x).length ≤ 4 * x.length := by
      intro x
      induction x with
      | nil => rw [flat_nil]; simp
      | cons c x ih =>
        rw [show c :: x = [c] ++ x from rfl, flat_append, flat_one, List.length_append, List.length_append]
        have := (enc_len (n := c)).2
        simp only [List.length_singleton]
        omega
    have h2 : ∀ x : List Nat, (mapL (k != 3) x).length ≤ 2 * x.length := by
      intro x
      induction x with
      | nil => simp [mapL]
      | cons c x ih =>
        unfold mapL at ih ⊢
        rw [List.flatMap_cons, List.length_append, List.length_cons]
        have : (one (k != 3) c).length ≤ 2 := by
          unfold one put small
          repeat' split
          all_goals simp
        omega
    unfold prepC
    have h3 := h1 (mapL (k != 3) l)
    have h4 := h2 l
    repeat' split
    all_goals (simp only [List.length_nil]; omega)
end Go.Proofs.YtogjhpcjjmcjfaaGreatDoor.Pr
end
section
/- what is reached of it -/
namespace Go.Proofs.YtogjhpcjjmcjfaaGreatDoor
open Go.RowKit Rg
/-- A call makes such a slice. -/
def Makes (f : FuncId) (l : List R) : Prop := ∀ w : World, Calls Tryz.prog f #[] w fun e w' => ∃ v, e = .returned v ∧ OwnR w.heap.size w' v l ∧ Below w.heap.size w w'

theorem made_of {w : World} {n : Nat} {cs : Array Value} {l : List R} (hn : l.length = n) (hc : cs.toList = prs l) (hm : n ≤ maxLen) :
    OwnR w.heap.size (w.alloc (.cells cs 135)) (.slice (some ⟨w.heap.size, 0, none⟩) n n) l ∧ Below w.heap.size w (w.alloc (.cells cs 135)) := ⟨OwnR.made hn hc hm, (Below.refl _ w).alloc (Nat.le_refl _) _⟩

set_option maxHeartbeats 1000000 in
theorem letters_any : Makes 153 lettersL := by
  intro w
  go_enter Tryz.func153, Tryz.ntmps153
  go_wp2_with fail
  go_ret
  exact ⟨_, rfl, made_of (l := lettersL) rfl (by unfold lettersL; simp only [prs_cons, prs_nil]) (by decide)⟩
set_option maxHeartbeats 1000000 in
theorem banned_any : Makes 113 bannedL := by
  intro w
  go_enter Tryz.func113, Tryz.ntmps113
  go_wp2_with fail
  go_ret
  exact ⟨_, rfl, made_of (l := bannedL) rfl (by unfold bannedL; simp only [prs_cons, prs_nil]) (by decide)⟩
set_option maxHeartbeats 1000000 in
theorem rightLeft_any : Makes 154 rightLeftL := by
  intro w
  go_enter Tryz.func154, Tryz.ntmps154
  go_wp2_with fail
  go_ret
  exact ⟨_, rfl, made_of (l := rightLeftL) rfl (by unfold rightLeftL; simp only [prs_cons, prs_nil]) (by decide)⟩
set_option maxHeartbeats 1000000 in
theorem gone_any : Makes 165 goneL := by
  intro w
  go_enter Tryz.func165, Tryz.ntmps165
  go_wp2_with fail
  go_ret
  exact ⟨_, rfl, made_of (l := goneL) rfl (by unfold goneL; simp only [prs_cons, prs_nil]) (by decide)⟩

end Go.Proofs.YtogjhpcjjmcjfaaGreatDoor
end
