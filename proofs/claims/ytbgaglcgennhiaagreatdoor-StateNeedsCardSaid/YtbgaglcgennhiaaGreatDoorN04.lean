import Derived.WalkKit
import Derived.Lib.Hide
import Derived.Test.YtbgaglcgennhiaaGreatDoorN03
import Derived.Laws.IdiomStrings
import Derived.Laws.Cover4
import Derived.Test.YtbgaglcgennhiaaGreatDoorRows
import Derived.Test.YtbgaglcgennhiaaGreatDoorShelf
import Derived.WalkSpells
import Derived.WalkLawsBesides
import Derived.Laws.AppendOwn
import Derived.Deep.RegionLaw
import Derived.Lib.SlicesS
import Derived.Deep.QuietTactic
import Derived.BigQuiet
import Derived.Lib.FrozenHead2
import Derived.Lib.OthersKept
import Derived.Scope
import Derived.Deep.RegionWith
import Derived.Lib.IndexBytes
section
/- what is reached of it -/
namespace Go.Proofs.YtbgaglcgennhiaaGreatDoor
open Go.RowKit
/-- Block g of w holds just these cells, none of them frozen. -/
def Bk (w : World) (g : Nat) (t : TypeId) (cs : Array Value) : Prop := w.heap[g]? = some (.cells cs t (0, 0))
namespace Bk
variable {w w' : World} {g : Nat} {t : TypeId} {cs : Array Value}
theorem lt (h : Bk w g t cs) : g < w.heap.size := lt_of_block h
theorem cell (h : Bk w g t cs) (i : Nat) : w.cell? ⟨g, i, none⟩ = cs[i]? := cell_of_row w g i cs t (0, 0) h
theorem free (h : Bk w g t cs) (i : Nat) : w.frozen? ⟨g, i, none⟩ = false := by
  have e : w.heap[g]? = some (.cells cs t (0, 0)) := h
  simp [World.frozen?, e]
theorem new (w : World) (t : TypeId) (cs : Array Value) : Bk (w.alloc (.cells cs t)) w.heap.size t cs := heap_alloc_new w _
theorem new1 (w : World) (o : Obj) (t : TypeId) (cs : Array Value) : Bk ((w.alloc o).alloc (.cells cs t)) (w.heap.size + 1) t cs := by
  have h := new (w.alloc o) t cs
  rwa [World.size_alloc] at h
theorem new2 (w : World) (o p : Obj) (t : TypeId) (cs : Array Value) : Bk (((w.alloc o).alloc p).alloc (.cells cs t)) (w.heap.size + 1 + 1) t cs := by
  have h := new ((w.alloc o).alloc p) t cs
  rwa [World.size_alloc, World.size_alloc] at h
theorem alloc (h : Bk w g t cs) (o : Obj) : Bk (w.alloc o) g t cs := (Below.heap_alloc w o g h.lt).trans h
theorem drew (h : Bk w g t cs) : Bk w.drew g t cs := h
theorem far (h : Bk w g t cs) {p : Addr} (hp : g ≠ p.block) (u : Value) : Bk (w.setCell p u) g t cs := (Below.heap_setCell w p u g hp).trans h
theorem put (h : Bk w g t cs) (i : Nat) (u : Value) : Bk (w.setCell ⟨g, i, none⟩ u) g t (cs.setIfInBounds i u) := by
  have e : w.heap[g]? = some (.cells cs t (0, 0)) := h
  show (w.heap.modify g _)[g]? = _
  simp [Array.getElem?_modify, e]
theorem two {a b : Value} (h : Bk w g t #[a, b]) (u v : Value) : Bk ((w.setCell ⟨g, 0, none⟩ u).setCell ⟨g, 1, none⟩ v) g t #[u, v] := by
  have := (h.put 0 u).put 1 v
  simpa using this
theorem below {B : Nat} (h : Bk w g t cs) (hb : Below B w w') (hg : g < B) : Bk w' g t cs := (hb.block g hg).trans h
theorem grown {row : Option Nat} (h : Bk w g t cs) (hb : w.grownBy w' row) (hg : some g ≠ row) : Bk w' g t cs := (hb.block g h.lt hg).trans h
end Bk
/-- Below its own size nothing turns: cells and marks alike. -/
theorem keep {W w1 : World} (hb : Below W.heap.size W w1) : (∀ b o, b < W.heap.size → w1.cell? ⟨b, o, none⟩ = W.cell? ⟨b, o, none⟩) ∧ (∀ b o, b < W.heap.size → w1.frozen? ⟨b, o, none⟩ = W.frozen? ⟨b, o, none⟩) :=
  ⟨fun b o h => hb.cell (p := ⟨b, o, none⟩) h, fun b o h => hb.frozen (p := ⟨b, o, none⟩) h⟩
theorem ret_bool {a b : Bool} (h : a = b) : Ending.returned (.bool a) = .returned (.bool b) := by rw [h]
theorem add_at (g o i : Nat) : (⟨g, o, none⟩ : Addr).add i = ⟨g, o + i, none⟩ := by unfold Addr.add; split <;> simp_all
theorem addBlock (a : Addr) (i : Nat) : (a.add i).block = a.block := by unfold Addr.add; split <;> rfl
end Go.Proofs.YtbgaglcgennhiaaGreatDoor
end
section
/- what is reached of it -/
namespace Go.Proofs.YtbgaglcgennhiaaGreatDoor.Tx
open Go.Lib
/-- The bytes of a character that can be written. -/
def encB (c : Nat) : List UInt8 :=
  if c < 128 then [UInt8.ofNat c] else if c < 2048 then [UInt8.ofNat (192 + c / 64), UInt8.ofNat (128 + c % 64)]
  else if c < 65536 then [UInt8.ofNat (224 + c / 4096), UInt8.ofNat (128 + c / 64 % 64), UInt8.ofNat (128 + c % 64)]
  else [UInt8.ofNat (240 + c / 262144), UInt8.ofNat (128 + c / 4096 % 64), UInt8.ofNat (128 + c / 64 % 64), UInt8.ofNat (128 + c % 64)]
/-- May Go write it? -/
def sane (n : Nat) : Prop := n < 55296 ∨ (57343 < n ∧ n ≤ 1114111)
instance (n : Nat) : Decidable (sane n) := by unfold sane; exact inferInstance
/-- The bytes of a character, as Go writes it. -/
def enc (n : Nat) : List UInt8 := if sane n then encB n else [239, 191, 189]
theorem toNat_of (k : Nat) (h : k < 256) : (UInt8.ofNat k).toNat = k := by
  rw [UInt8.toNat_ofNat']
  exact Nat.mod_eq_of_lt h
theorem enc_sane {n : Nat} (h : sane n) : enc n = encB n := if_pos h
theorem enc_bad {n : Nat} (h : ¬ sane n) : enc n = [239, 191, 189] := if_neg h
theorem enc_cases {n : Nat} (h : sane n) :
    (n < 128 ∧ enc n = [UInt8.ofNat n]) ∨ (128 ≤ n ∧ n < 2048 ∧ enc n = [UInt8.ofNat (192 + n / 64), UInt8.ofNat (128 + n % 64)]) ∨
    (2048 ≤ n ∧ n < 65536 ∧ enc n = [UInt8.ofNat (224 + n / 4096), UInt8.ofNat (128 + n / 64 % 64), UInt8.ofNat (128 + n % 64)]) ∨
    (65536 ≤ n ∧ n ≤ 1114111 ∧ enc n = [UInt8.ofNat (240 + n / 262144), UInt8.ofNat (128 + n / 4096 % 64), UInt8.ofNat (128 + n / 64 % 64), UInt8.ofNat (128 + n % 64)]) := by
  rw [enc_sane h]
  unfold sane at h
  unfold encB
  by_cases h1 : n < 128
  · left; exact ⟨h1, if_pos h1⟩
  by_cases h2 : n < 2048
  · right; left; exact ⟨by omega, h2, by rw [if_neg h1, if_pos h2]⟩
  by_cases h3 : n < 65536
  · right; right; left; exact ⟨by omega, h3, by rw [if_neg h1, if_neg h2, if_pos h3]⟩
  · right; right; right; exact ⟨by omega, by omega, by rw [if_neg h1, if_neg h2, if_neg h3]⟩
theorem dc_enc {n : Nat} (h : sane n) : dc (enc n) = (n, (enc n).length) := by
  have hs := h
  unfold sane at hs
  rw [dc_bt]
  rcases enc_cases h with ⟨a, e⟩ | ⟨a, b, e⟩ | ⟨a, b, e⟩ | ⟨a, b, e⟩ <;> rw [e]
  · have b0 : bt [UInt8.ofNat n] 0 = n := by rw [bt_def]; exact toNat_of _ (by omega)
    rw [b0]
    unfold decodeN
    rw [if_pos a]
    rfl
  · have b0 : bt [UInt8.ofNat (192 + n / 64), UInt8.ofNat (128 + n % 64)] 0 = 192 + n / 64 := by rw [bt_def]; exact toNat_of _ (by omega)
    have b1 : bt [UInt8.ofNat (192 + n / 64), UInt8.ofNat (128 + n % 64)] 1 = 128 + n % 64 := by rw [bt_def]; exact toNat_of _ (by omega)
    rw [b0, b1]
    unfold decodeN
    simp only [List.length_cons, List.length_nil]
    rw [if_neg (by omega), if_pos (by omega), if_pos (by omega)]
    refine Prod.ext ?_ rfl
    simp only
    omega
  · have b0 : bt [UInt8.ofNat (224 + n / 4096), UInt8.ofNat (128 + n / 64 % 64), UInt8.ofNat (128 + n % 64)] 0 = 224 + n / 4096 := by rw [bt_def]; exact toNat_of _ (by omega)
    have b1 : bt [UInt8.ofNat (224 + n / 4096), UInt8.ofNat (128 + n / 64 % 64), UInt8.ofNat (128 + n % 64)] 1 = 128 + n / 64 % 64 := by rw [bt_def]; exact toNat_of _ (by omega)
    have b2 : bt [UInt8.ofNat (224 + n / 4096), UInt8.ofNat (128 + n / 64 % 64), UInt8.ofNat (128 + n % 64)] 2 = 128 + n % 64 := by rw [bt_def]; exact toNat_of _ (by omega)
    rw [b0, b1, b2]
    unfold decodeN
    simp only [List.length_cons, List.length_nil]
    rw [if_neg (by omega), if_neg (by omega), if_pos (by omega), if_pos (by omega)]
    refine Prod.ext ?_ rfl
    simp only
    omega
  · have b0 : bt [UInt8.ofNat (240 + n / 262144), UInt8.ofNat (128 + n / 4096 % 64), UInt8.ofNat (128 + n / 64 % 64), UInt8.ofNat (128 + n % 64)] 0 = 240 + n / 262144 := by rw [bt_def]; exact toNat_of _ (by omega)
    have b1 : bt [UInt8.ofNat (240 + n / 262144), UInt8.ofNat (128 + n / 4096 % 64), UInt8.ofNat (128 + n / 64 % 64), UInt8.ofNat (128 + n % 64)] 1 = 128 + n / 4096 % 64 := by rw [bt_def]; exact toNat_of _ (by omega)
    have b2 : bt [UInt8.ofNat (240 + n / 262144), UInt8.ofNat (128 + n / 4096 % 64), UInt8.ofNat (128 + n / 64 % 64), UInt8.ofNat (128 + n % 64)] 2 = 128 + n / 64 % 64 := by rw [bt_def]; exact toNat_of _ (by omega)
    have b3 : bt [UInt8.ofNat (240 + n / 262144), UInt8.ofNat (128 + n / 4096 % 64), UInt8.ofNat (128 + n / 64 % 64), UInt8.ofNat (128 + n % 64)] 3 = 128 + n % 64 := by rw [bt_def]; exact toNat_of _ (by omega)
    rw [b0, b1, b2, b3]
    unfold decodeN
    simp only [List.length_cons, List.length_nil]
    rw [if_neg (by omega), if_neg (by omega), if_neg (by omega), if_pos (by omega), if_pos (by omega)]
    refine Prod.ext ?_ rfl
    simp only
    omega
theorem enc_len {n : Nat} : 1 ≤ (enc n).length ∧ (enc n).length ≤ 4 := by
  by_cases h : sane n
  · rcases enc_cases h with ⟨_, e⟩ | ⟨_, _, e⟩ | ⟨_, _, e⟩ | ⟨_, _, e⟩ <;> rw [e] <;> simp
  · rw [enc_bad h]; simp
theorem enc_ne (n : Nat) : enc n ≠ [] := by
  intro e
  have := (enc_len (n := n)).1
  rw [e] at this
  simp at this
theorem enc_big {n : Nat} (h : sane n) (hn : 128 ≤ n) : 2 ≤ (enc n).length := by
  rcases enc_cases h with ⟨_, e⟩ | ⟨_, _, e⟩ | ⟨_, _, e⟩ | ⟨_, _, e⟩ <;> first | omega | (rw [e]; simp)
theorem nx_enc {n : Nat} (h : sane n) (hk : okc n = true) : nx (enc n) = (n, (enc n).length) := by
  rw [nx_eq, dc_enc h, hk]
  have : (n == 65533 && (enc n).length == 1) = false := by
    cases e : (n == 65533 && (enc n).length == 1) with
    | false => rfl
    | true =>
      exfalso
      simp only [Bool.and_eq_true, beq_iff_eq] at e
      have := enc_big h (by omega)
      omega
  simp only [this]
  rfl
theorem ch_enc {n : Nat} (h : sane n) (hk : okc n = true) : ch (enc n) = some [n] := by
  have e := nx_enc h hk
  have := (enc_len (n := n)).1
  have h2 : (nx (enc n)).2 ≠ 0 := by rw [e]; intro h0; simp only at h0; omega
  rw [ch_good (enc_ne n) h2, e]
  simp only
  rw [List.drop_length, ch_nil]
  rfl
attribute [irreducible] enc
end Go.Proofs.YtbgaglcgennhiaaGreatDoor.Tx
end
section
/- what is reached of it -/
namespace Go.Proofs.YtbgaglcgennhiaaGreatDoor.Tx
open Go.Lib
/-- A row of characters, written. -/
def flat (cs : List Nat) : List UInt8 := cs.flatMap enc
theorem flat_nil : flat [] = [] := rfl
theorem flat_append (a b : List Nat) : flat (a ++ b) = flat a ++ flat b := by simp [flat]
theorem flat_one (c : Nat) : flat [c] = enc c := by simp [flat]
/-- Characters that a line may have. -/
def Good (cs : List Nat) : Prop := ∀ c ∈ cs, sane c ∧ okc c = true ∧ 32 ≤ c
theorem Good.nil : Good [] := fun c h => by cases h
theorem Good.take {cs : List Nat} (h : Good cs) (k : Nat) : Good (cs.take k) := fun c hc => h c (List.mem_of_mem_take hc)
theorem Good.drop {cs : List Nat} (h : Good cs) (k : Nat) : Good (cs.drop k) := fun c hc => h c (List.mem_of_mem_drop hc)
attribute [irreducible] flat
end Go.Proofs.YtbgaglcgennhiaaGreatDoor.Tx
end
section
/- what is reached of it -/
namespace Go.Proofs.YtbgaglcgennhiaaGreatDoor.Tx
open Go.Lib
/-- May the character of this number stand in a text? -/
def good (v : Nat) : Bool := decide (sane v) && okc v
def keep (o : Option Nat) : Option Nat := match o with
  | some v => if good v then some v else none
  | none => none
end Go.Proofs.YtbgaglcgennhiaaGreatDoor.Tx
end
section
/- what is reached of it -/
namespace Go.Proofs.YtbgaglcgennhiaaGreatDoor
open Go.RowKit
theorem below_drewNP (w : World) (n : Nat) : Below w.heap.size w (w.drewN n) := ⟨rfl, rfl, rfl, Nat.le_refl _, fun _ _ => rfl⟩
/-- Go's own bound on a search, whatever it be -/
def MaxL (w : World) : Prop := ∃ m, w.cell? ⟨0, 0, none⟩ = some (.int .i64 m)
theorem MaxL.below {w w' : World} (h : MaxL w) (hb : Below w.heap.size w w') : MaxL w' := by
  obtain ⟨m, hm⟩ := h
  refine ⟨m, ?_⟩
  rw [hb.cell (p := ⟨0, 0, none⟩) (World.block_lt_of_cell? _ _ hm)]
  exact hm
/-- ahead of the first sign c, and behind it -/
theorem cut_one (c : UInt8) : ∀ l : List UInt8, (Lib.cut l [c] = (l, [], false) ∧ ∀ x ∈ l, x ≠ c) ∨ ∃ p r, l = p ++ c :: r ∧ (∀ x ∈ p, x ≠ c) ∧ Lib.cut l [c] = (p, r, true) := by
  intro l
  rcases Lib.index_spec l [c] with ⟨h1, h2⟩ | ⟨i, h1, h2, h3, h4⟩
  · left
    refine ⟨by unfold Lib.cut; rw [h1]; rfl, fun x hx e => ?_⟩
    subst e
    obtain ⟨j, hj, hx⟩ := List.mem_iff_getElem.1 hx
    have := h2 j (by omega)
    unfold Lib.occAt at this
    rw [List.drop_eq_getElem_cons hj, hx] at this
    simp [List.isPrefixOf] at this
  · right
    unfold Lib.occAt at h3
    rw [List.isPrefixOf_iff_prefix] at h3
    obtain ⟨r, hr⟩ := h3
    have hr2 : l.drop i = c :: r := hr.symm
    have hl : l = l.take i ++ c :: r := by rw [← hr2, List.take_append_drop]
    have hr3 : l.drop (i + 1) = r := by
      have := congrArg (List.drop 1) hr2
      simpa [List.drop_drop] using this
    refine ⟨l.take i, r, hl, fun x hx e => ?_, ?_⟩
    · subst e
      obtain ⟨j, hj, hx⟩ := List.mem_iff_getElem.1 hx
      rw [List.length_take] at hj
      have := h4 j (by omega)
      unfold Lib.occAt at this
      rw [List.getElem_take] at hx
      rw [List.drop_eq_getElem_cons (by omega), hx] at this
      simp [List.isPrefixOf] at this
    · unfold Lib.cut
      rw [h1, if_pos (by omega)]
      simp only [Int.toNat_natCast, List.length_singleton]
      rw [hr3]
end Go.Proofs.YtbgaglcgennhiaaGreatDoor
end
section
/- what is reached of it -/
namespace Go.Proofs.YtbgaglcgennhiaaGreatDoor
open Go.RowKit
/-- An attribute: its name, its value. -/
abbrev Att := List UInt8 × List UInt8
theorem Bk.type_ne {w : World} {g T : Nat} {t u : TypeId} {cs ds : Array Value} (h : Bk w g t cs) (k : Bk w T u ds) (hn : t ≠ u) : g ≠ T := fun e => by
  subst e
  have e1 : w.heap[g]? = some (.cells cs t (0, 0)) := h
  have e2 : w.heap[g]? = some (.cells ds u (0, 0)) := k
  rw [e1] at e2
  injection e2 with e2
  injection e2 with _ e2
  exact hn e2
abbrev bts (l : List UInt8) : ByteArray := ⟨l.toArray⟩
/-- u is a slice that can be read: these attributes. -/
def ReadA (w : World) (u : Value) (l : List Att) : Prop := ∃ A cap, u = .slice A l.length cap ∧ (0 < l.length → ∃ ad : Addr, A = some ad ∧ ad.block < w.heap.size ∧ ∀ i a, l[i]? = some a → w.cell? (ad.add (i * 2)) = some (.string (bts a.1)) ∧ w.cell? ⟨(ad.add (i * 2)).block, (ad.add (i * 2)).off + 1, none⟩ = some (.string (bts a.2)))
theorem ReadA.below {w w' : World} {u : Value} {l : List Att} (h : ReadA w u l) (hb : Below w.heap.size w w') : ReadA w' u l := by
  obtain ⟨A, cap, rfl, h2⟩ := h
  refine ⟨A, cap, rfl, fun h0 => ?_⟩
  obtain ⟨ad, rfl, hl, hc⟩ := h2 h0
  refine ⟨ad, rfl, Nat.lt_of_lt_of_le hl hb.size, fun i a hi => ?_⟩
  rw [hb.cell (by rw [addBlock]; exact hl), hb.cell (by show (ad.add (i * 2)).block < _; rw [addBlock]; exact hl)]
  exact hc i a hi
theorem ReadA.one {w : World} {u : Value} {l : List Att} (h : ReadA w u l) : u.oneCell' = true := by
  obtain ⟨A, cap, rfl, _⟩ := h
  rfl
end Go.Proofs.YtbgaglcgennhiaaGreatDoor
end
section
/- what is reached of it -/
namespace Go.Proofs.YtbgaglcgennhiaaGreatDoor
open Go.RowKit
/-- Strings as values. -/
def strs (x : List ByteArray) : List Value := x.map Value.string
theorem strs_get {x : List ByteArray} {i : Nat} {b : ByteArray} (h : x[i]? = some b) : (strs x)[i]? = some (.string b) := by simp [strs, h]
attribute [irreducible] strs
/-- The slice v, made by the call (above block B), holds just the strings x. -/
def OwnT (B : Nat) (w : World) (v : Value) (x : List ByteArray) : Prop := w.ownsRow B 9 1 v x.length (strs x)
theorem OwnT.nil (B : Nat) (w : World) : OwnT B w (.slice none 0 0) [] := by
  unfold OwnT
  rw [show strs [] = [] from by unfold strs; rfl]
  exact World.ownsRow_nil _ _ _ _
theorem OwnT.below {B : Nat} {w w' : World} {v : Value} {x : List ByteArray} (h : OwnT B w v x) (hb : Below w.heap.size w w') : OwnT B w' v x := by
  have h' : w.ownsRow B 9 1 v x.length (strs x) := h
  refine h'.kept (w' := w') (row := some w.heap.size) ⟨hb.os, hb.tape, hb.output, hb.size, fun i hi _ => hb.block i hi⟩ ?_
  cases ho : v.ownBlock with
  | none => exact .inl rfl
  | some g => exact .inr (fun e => by have := (h'.lt g ho).2; injection e with e; omega)
theorem OwnT.low {B : Nat} {w : World} {v : Value} {x : List ByteArray} (h : OwnT B w v x) {j : Nat} (hj : v.ownBlock = some j) : B ≤ j ∧ j < w.heap.size := World.ownsRow.lt h j hj
theorem OwnT.slice {B : Nat} {w : World} {v : Value} {x : List ByteArray} (h : OwnT B w v x) : ∃ A cap, v = .slice A x.length cap := by
  rcases h.2 with ⟨rfl, h0⟩ | ⟨g, cap, cur, rfl, _⟩
  · exact ⟨none, 0, by rw [h0]⟩
  · exact ⟨_, _, rfl⟩

/-- A slice that can be read: it holds just the strings x, below block B (nil and empty ones too). -/
def ReadT (B : Nat) (w : World) (v : Value) (x : List ByteArray) : Prop :=
  ∃ A cap, v = .slice A x.length cap ∧ (0 < x.length → ∃ ad : Addr, A = some ad ∧ ad.block < B ∧ ∀ i b, x[i]? = some b → w.cell? (ad.add i) = some (.string b))
theorem ReadT.below {B : Nat} {w w' : World} {v : Value} {x : List ByteArray} (h : ReadT B w v x) (hb : Below B w w') : ReadT B w' v x := by
  obtain ⟨A, cap, rfl, h2⟩ := h
  refine ⟨A, cap, rfl, fun h0 => ?_⟩
  obtain ⟨ad, rfl, hl, hc⟩ := h2 h0
  refine ⟨ad, rfl, hl, fun i b hi => (hb.cell ?_).trans (hc i b hi)⟩
  rw [addBlock]
  exact hl
theorem ReadT.more {B C : Nat} {w : World} {v : Value} {x : List ByteArray} (h : ReadT B w v x) (hB : B ≤ C) : ReadT C w v x := by
  obtain ⟨A, cap, rfl, h2⟩ := h
  refine ⟨A, cap, rfl, fun h0 => ?_⟩
  obtain ⟨ad, rfl, hl, hc⟩ := h2 h0
  exact ⟨ad, rfl, by omega, hc⟩
theorem ReadT.nil (B : Nat) (w : World) (cap : Nat) : ReadT B w (.slice none 0 cap) [] := ⟨none, cap, rfl, fun h => absurd h (by simp)⟩
theorem OwnT.reads {B : Nat} {w : World} {v : Value} {x : List ByteArray} (h : OwnT B w v x) : ReadT w.heap.size w v x := by
  have h' : w.ownsRow B 9 1 v x.length (strs x) := h
  rcases h'.2 with ⟨rfl, h0⟩ | ⟨g, cap, cur, rfl, _, hh, _⟩
  · exact ⟨none, 0, by rw [h0], fun h => absurd h (by omega)⟩
  · refine ⟨_, cap, rfl, fun h0 => ⟨_, rfl, lt_of_block hh, fun i b hi => ?_⟩⟩
    exact h'.cells (g := g) rfl i _ (strs_get hi)
/-- A list that lies in a new block. -/
theorem ReadT.made {w : World} {g cap n o : Nat} {x : List ByteArray} (hn : x.length = n) (hg : g < w.heap.size) (hc : ∀ i b, x[i]? = some b → w.cell? ⟨g, o + i, none⟩ = some (.string b)) : ReadT w.heap.size w (.slice (some ⟨g, o, none⟩) n cap) x := by
  subst hn
  refine ⟨_, cap, rfl, fun _ => ⟨_, rfl, hg, fun i b hi => ?_⟩⟩
  rw [add_at]
  exact hc i b hi

theorem below_drewN1 (w : World) (n : Nat) : Below w.heap.size w (w.drewN n) := ⟨rfl, rfl, rfl, Nat.le_refl _, fun _ _ => rfl⟩
end Go.Proofs.YtbgaglcgennhiaaGreatDoor
end
section
/- what is reached of it -/
namespace Go.Proofs.YtbgaglcgennhiaaGreatDoor
open Go.RowKit
/-- What a builder's call may turn: block b, and blocks from C on. -/
structure Btw (b C : Nat) (w w' : World) : Prop where
  below : Below b w w'
  mid : ∀ g, b < g → g < C → w'.heap[g]? = w.heap[g]?
theorem Btw.refl (b C : Nat) (w : World) : Btw b C w w := ⟨Below.refl _ _, fun _ _ _ => rfl⟩
theorem Btw.trans {b C : Nat} {w x y : World} (h : Btw b C w x) (k : Btw b C x y) : Btw b C w y := ⟨h.below.trans k.below, fun g h1 h2 => (k.mid g h1 h2).trans (h.mid g h1 h2)⟩
theorem Btw.of {b C D : Nat} {w x : World} (h : Below D w x) (h1 : b ≤ D) (h2 : C ≤ D) : Btw b C w x := ⟨h.mono h1, fun g _ hg => h.block g (by omega)⟩
theorem Btw.keeps {b C g : Nat} {w x : World} (h : Btw b C w x) (h1 : g ≠ b) (h2 : g < C) : x.heap[g]? = w.heap[g]? := by
  rcases Nat.lt_or_ge g b with h3 | h3
  · exact h.below.block g h3
  · exact h.mid g (by omega) h2
end Go.Proofs.YtbgaglcgennhiaaGreatDoor
end
section
/- what is reached of it -/
namespace Go.Proofs.YtbgaglcgennhiaaGreatDoor
open Go.RowKit Tx
/-- signs of one byte -/
def Asc (C : ByteArray) : Prop := ∀ i (h : i < C.size), (C[i]'h).toNat < 128
theorem Asc.all {C : ByteArray} (h : Asc C) : ∀ b ∈ C.data.toList, b.toNat < 128 := fun b hb => by
  obtain ⟨i, hi, e⟩ := List.mem_iff_getElem.1 hb
  have hi2 : i < C.size := by rw [Lib.size_eq]; exact hi
  have h2 := Lib.data_getElem? C i hi2
  rw [List.getElem?_eq_getElem hi, e] at h2
  have := h i hi2
  rwa [← Option.some.inj h2] at this
theorem Asc.of {C : ByteArray} (h : C.data.toList.all (fun b => decide (b.toNat < 128)) = true) : Asc C := fun i hi => of_decide_eq_true (List.all_eq_true.1 h _ (List.mem_of_getElem? (Lib.data_getElem? C i hi)))
end Go.Proofs.YtbgaglcgennhiaaGreatDoor
end
