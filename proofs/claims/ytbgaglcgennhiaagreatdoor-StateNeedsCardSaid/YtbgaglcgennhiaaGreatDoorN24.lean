import Derived.Lib.Strings
import Derived.Lib.Hide
import Derived.WalkKit
import Derived.Test.YtbgaglcgennhiaaGreatDoorN23
import Derived.Test.YtbgaglcgennhiaaGreatDoorN16
import Derived.Test.YtbgaglcgennhiaaGreatDoorRows
import Derived.Test.YtbgaglcgennhiaaGreatDoorN03
import Derived.Test.YtbgaglcgennhiaaGreatDoorN04
import Derived.WalkSpells
import Derived.WalkLawsBesides
import Derived.Test.YtbgaglcgennhiaaGreatDoorN13
import Derived.Laws.MakeOwn
import Derived.Laws.OwnMore
import Derived.Lib.OthersKept
import Derived.Scope
import Derived.Deep.RegionWith
section
/- what is reached of it -/
namespace Go.Proofs.YtbgaglcgennhiaaGreatDoor
theorem ret_str {a b : ByteArray} (h : a = b) : Ending.returned (.string a) = .returned (.string b) := by rw [h]
theorem bytes_of {o : ByteArray} {l : List UInt8} (h : o.data.toList = l) : o = ⟨l.toArray⟩ := by
  subst h
  rfl
theorem cat_list (a b : ByteArray) : (a ++ b).data.toList = a.data.toList ++ b.data.toList := by simp
theorem drop_step {s : ByteArray} {k : Nat} (h : k < s.size) : s.data.toList.drop k = (s[k]'h) :: s.data.toList.drop (k + 1) := by
  have h' : k < s.data.toList.length := by rw [← Lib.size_eq]; exact h
  exact List.drop_eq_getElem_cons h'
end Go.Proofs.YtbgaglcgennhiaaGreatDoor
end
section
/- what is reached of it -/
namespace Go.Proofs.YtbgaglcgennhiaaGreatDoor.Tx
open Go.Lib
theorem ends_valid : ∀ rs : List (List UInt8), (∀ r ∈ rs, valid r = true) → valid (ends rs) = true
  | [], _ => valid_some ch_nil
  | r :: t, h => by
    rw [ends_cons]
    exact (valid_append (h r (by simp)) (valid_append (a := [13, 10]) (by decide +kernel) (ends_valid t (fun x hx => h x (by simp [hx])))).1).1
/-- lines that may be folded, and come back -/
def Fine (l : List UInt8) : Prop := clean l ∧ valid l = true ∧ cont l = false
end Go.Proofs.YtbgaglcgennhiaaGreatDoor.Tx
end
section
/- what is reached of it -/
namespace Go.Proofs.YtbgaglcgennhiaaGreatDoor.Tx
theorem linesA_conts : ∀ (rs acc : List (List UInt8)) (x : List UInt8), (∀ r ∈ rs, cont r = true) → linesA (acc ++ [x]) rs = some (acc ++ [x ++ rs.flatMap List.tail])
  | [], acc, x, _ => by rw [linesA_nil]; simp
  | r :: rs, acc, x, h => by
    rw [linesA_more _ (h r (by simp)) (by simp), addLast_snoc, linesA_conts rs acc _ (fun r hr => h r (by simp [hr]))]
    simp
/-- R are told rows, cur is the open one: they are one line, of which done is told -/
def AStand (R : List (List UInt8)) (cur done : List UInt8) : Prop :=
  (∀ r ∈ R, clean r ∧ valid r = true) ∧ clean cur ∧ valid cur = true ∧ jn (R ++ [cur]) = done ∧ ∃ f t, R ++ [cur] = f :: t ∧ cont f = false ∧ ∀ r ∈ t, cont r = true
theorem AStand.start : AStand [] [] [] := ⟨fun r h => (by cases h), fun c h => (by cases h), valid_some ch_nil, rfl, [], [], rfl, rfl, fun r h => (by cases h)⟩
theorem AStand.cut {R : List (List UInt8)} {cur done : List UInt8} (h : AStand R cur done) {b : UInt8} (hb : b = 32 ∨ b = 9) : AStand (R ++ [cur]) [b] done := by
  obtain ⟨h1, h2, h3, h4, f, t, h5, h6, h7⟩ := h
  refine ⟨fun r hr => ?_, ?_, ?_, ?_, f, t ++ [[b]], by rw [h5]; simp, h6, fun r hr => ?_⟩
  · rcases List.mem_append.1 hr with hr | hr
    · exact h1 r hr
    · rw [List.mem_singleton] at hr; subst hr; exact ⟨h2, h3⟩
  · intro c hc
    rw [List.mem_singleton] at hc
    subst hc
    rcases hb with rfl | rfl <;> decide
  · rcases hb with rfl | rfl <;> decide +kernel
  · rw [jn_snoc (by simp), h4]
    simp
  · rcases List.mem_append.1 hr with hr | hr
    · exact h7 r hr
    · rw [List.mem_singleton] at hr
      subst hr
      rcases hb with rfl | rfl <;> rfl
theorem AStand.push {R : List (List UInt8)} {cur done e : List UInt8} (h : AStand R cur done) (he : clean e) (hv : valid e = true) (hc : cur ≠ [] ∨ cont e = false) : AStand R (cur ++ e) (done ++ e) := by
  obtain ⟨h1, h2, h3, h4, f, t, h5, h6, h7⟩ := h
  refine ⟨h1, fun c hc => ?_, (valid_append h3 hv).1, ?_, ?_⟩
  · rcases List.mem_append.1 hc with hc | hc
    · exact h2 c hc
    · exact he c hc
  · cases R with
    | nil =>
      rw [List.nil_append] at h4
      rw [← h4]
      simp [jn]
    | cons a R =>
      have hct : cont cur = true := by
        rw [List.cons_append] at h5
        obtain ⟨_, rfl⟩ := List.cons.inj h5
        exact h7 cur (by simp)
      cases cur with
      | nil => cases hct
      | cons c u =>
        rw [jn_snoc (by simp)] at h4 ⊢
        rw [← h4]
        simp
  · cases R with
    | nil =>
      rw [List.nil_append] at h5
      obtain ⟨rfl, rfl⟩ := List.cons.inj h5
      refine ⟨cur ++ e, [], rfl, ?_, fun r h => (by cases h)⟩
      cases cur with
      | nil => exact hc.resolve_left (fun h => h rfl)
      | cons c u => exact h6
    | cons a R =>
      rw [List.cons_append] at h5
      obtain ⟨rfl, rfl⟩ := List.cons.inj h5
      refine ⟨a, R ++ [cur ++ e], by simp, h6, fun r hr => ?_⟩
      rcases List.mem_append.1 hr with hr | hr
      · exact h7 r (by simp [hr])
      · rw [List.mem_singleton] at hr
        subst hr
        have hct := h7 cur (by simp)
        cases cur with
        | nil => cases hct
        | cons c u => exact hct
theorem AStand.done {R : List (List UInt8)} {cur done : List UInt8} (h : AStand R cur done) : Tx.unfold (ends R ++ cur ++ [13, 10]) = some [done] ∧ valid (ends R ++ cur ++ [13, 10]) = true := by
  obtain ⟨h1, h2, h3, h4, f, t, h5, h6, h7⟩ := h
  have e : ends R ++ cur ++ [13, 10] = ends (R ++ [cur]) := by rw [ends_append, ends_cons, ends_nil]; simp
  have hall : ∀ r ∈ R ++ [cur], clean r ∧ valid r = true := fun r hr => by
    rcases List.mem_append.1 hr with hr | hr
    · exact h1 r hr
    · rw [List.mem_singleton] at hr; subst hr; exact ⟨h2, h3⟩
  rw [e]
  refine ⟨?_, ends_valid _ (fun r hr => (hall r hr).2)⟩
  unfold Tx.unfold
  rw [rowsA_ends _ (fun r hr => (hall r hr).1), h5]
  show linesA [] (f :: t) = _
  rw [linesA_new [] t h6, linesA_conts t [] f h7]
  rw [h5] at h4
  rw [← h4]
  rfl
/-- a character of a line, written -/
theorem enc_line {c : Nat} (h1 : sane c) (h2 : okc c = true) (h3 : 32 ≤ c) : clean (enc c) ∧ valid (enc c) = true := by
  refine ⟨fun x hx => ?_, valid_some (ch_enc h1 h2)⟩
  rcases enc_cases h1 with ⟨a, e⟩ | ⟨a, b, e⟩ | ⟨a, b, e⟩ | ⟨a, b, e⟩
  all_goals
    rw [e] at hx
    have key : ∀ k, k < 256 → 32 ≤ k → x = UInt8.ofNat k → x ≠ 10 ∧ x ≠ 13 := fun k hk hk2 hxk => by
      subst hxk
      have := toNat_of k hk
      exact ⟨fun e => by rw [e] at this; simp at this; omega, fun e => by rw [e] at this; simp at this; omega⟩
    simp only [List.mem_cons, List.not_mem_nil, or_false] at hx
  · exact key c (by omega) h3 hx
  · rcases hx with hx | hx
    · exact key _ (by omega) (by omega) hx
    · exact key _ (by omega) (by omega) hx
  · rcases hx with hx | hx | hx
    · exact key _ (by omega) (by omega) hx
    · exact key _ (by omega) (by omega) hx
    · exact key _ (by omega) (by omega) hx
  · rcases hx with hx | hx | hx | hx
    · exact key _ (by omega) (by omega) hx
    · exact key _ (by omega) (by omega) hx
    · exact key _ (by omega) (by omega) hx
    · exact key _ (by omega) (by omega) hx
/-- the characters of a line -/
theorem line_chars {l : List UInt8} {most : Int} (h : line l most = true) : ∃ cs, ch l = some cs ∧ flat cs = l ∧ ∀ c ∈ cs, sane c ∧ okc c = true ∧ 32 ≤ c := by
  cases hc : ch l with
  | none => rw [line_none hc] at h; cases h
  | some cs =>
    rw [line_some hc, Bool.and_eq_true, beq_iff_eq, low_def] at h
    refine ⟨cs, rfl, ch_flat_back _ l cs (Nat.le_refl _) hc, fun c hm => ?_⟩
    obtain ⟨h1, h2⟩ := ch_good_all _ l cs (Nat.le_refl _) hc c hm
    refine ⟨h1, h2, ?_⟩
    rcases Nat.lt_or_ge c 32 with h3 | h3
    · have : c ∈ cs.filter (fun c => decide (c < 32)) := List.mem_filter.2 ⟨hm, decide_eq_true h3⟩
      rw [List.eq_nil_of_length_eq_zero h.1] at this
      cases this
    · exact h3
end Go.Proofs.YtbgaglcgennhiaaGreatDoor.Tx
end
section
/- what is reached of it -/
namespace Go.Proofs.YtbgaglcgennhiaaGreatDoor
open Go.RowKit Tx
/-- What the document's decoder hands back: the character and its width, twice 0 where there is none. -/
def Decoded (w : World) (l : List UInt8) (e : Ending) (w' : World) : Prop := e = .returned (.tuple #[.int .i64 (rdc l).1, .int .i64 (rdc l).2]) ∧ w = w'
theorem Decoded.some {w : World} {l : List UInt8} {c n : Nat} (h : rdc l = (c, n)) : Decoded w l (.returned (.tuple #[.int .i64 c, .int .i64 n])) w := ⟨by rw [h], rfl⟩
theorem Decoded.none {w : World} {l : List UInt8} (h : rdc l = (0, 0)) : Decoded w l (.returned (.tuple #[.int .i64 0, .int .i64 0])) w := ⟨by rw [h]; rfl, rfl⟩
/-- What the document's next character is: it may stand in a text; twice 0: none. -/
def Nexted (w : World) (l : List UInt8) (e : Ending) (w' : World) : Prop := e = .returned (.tuple #[.int .i64 (nx l).1, .int .i64 (nx l).2]) ∧ w = w'
theorem Nexted.of {w : World} {l : List UInt8} {c n : Nat} (h : nx l = (c, n)) : Nexted w l (.returned (.tuple #[.int .i64 c, .int .i64 n])) w := ⟨by rw [h], rfl⟩
theorem Nexted.none {w : World} {l : List UInt8} (h : nx l = (0, 0)) : Nexted w l (.returned (.tuple #[.int .i64 0, .int .i64 0])) w := ⟨by rw [h]; rfl, rfl⟩
end Go.Proofs.YtbgaglcgennhiaaGreatDoor
end
section
/- what is reached of it -/
namespace Go.Proofs.YtbgaglcgennhiaaGreatDoor
open Go.RowKit Tx
/-- how the document's loop stands: o ahead, so much room, the rest from k on -/
def FStand (l : List UInt8) (k room : Nat) (o : List UInt8) : Prop := foldOne l = o ++ fr room (chs (l.drop k))
theorem FStand.start (l : List UInt8) : FStand l 0 75 [] := by unfold FStand; rw [List.drop_zero, foldOne_fr]; rfl
theorem FStand.done {l o : List UInt8} {k room : Nat} (h : FStand l k room o) (hk : l.length ≤ k) : foldOne l = o ++ [13, 10] := by
  unfold FStand at h
  rw [List.drop_eq_nil_of_le hk, chs_nil, fr_nil] at h
  exact h
theorem chs_at {l : List UInt8} {k n : Nat} (hk : k < l.length) (hn : (dc (l.drop k)).2 = n) : chs (l.drop k) = (l.drop k).take n :: chs (l.drop (k + n)) := by
  rw [chs_step (drop_ne hk), hn, List.drop_drop]
theorem take_len {l : List UInt8} {k n : Nat} (hk : k + n ≤ l.length) : ((l.drop k).take n).length = n := by
  rw [List.length_take, List.length_drop]; omega
theorem FStand.cut {l o : List UInt8} {k room n : Nat} (h : FStand l k room o) (hk : k < l.length) (hn : (dc (l.drop k)).2 = n) (hkn : k + n ≤ l.length) (hr : room < n) : FStand l (k + n) (74 - n) (o ++ [13, 10, 32] ++ (l.drop k).take n) := by
  unfold FStand at h ⊢
  rw [h, chs_at hk hn, fr_cut _ (by rw [take_len hkn]; omega), take_len hkn]
  simp
end Go.Proofs.YtbgaglcgennhiaaGreatDoor
end
section
/- what is reached of it -/
namespace Go.Proofs.YtbgaglcgennhiaaGreatDoor
open Go.RowKit Tx
/-- how the package's loop stands: acc are told, t is ahead -/
def CStand (l : List UInt8) (acc : List (List UInt8)) (t : List UInt8) : Prop := chs l = acc ++ chs t ∧ acc.length + t.length ≤ l.length
theorem CStand.start (l : List UInt8) : CStand l [] l := ⟨rfl, by simp⟩
theorem CStand.next {l t : List UInt8} {acc : List (List UInt8)} (h : CStand l acc t) (ht : t ≠ []) {n : Nat} (hn : (dc t).2 = n) : CStand l (acc ++ [t.take n]) (t.drop n) := by
  have h1 := dc_ge1 t
  have h2 : 0 < t.length := List.length_pos_iff.2 ht
  refine ⟨by rw [h.1, chs_step ht, hn]; simp, ?_⟩
  have := h.2
  rw [List.length_append, List.length_singleton, List.length_drop]
  omega
end Go.Proofs.YtbgaglcgennhiaaGreatDoor
end
section
/- what is reached of it -/
namespace Go.Proofs.YtbgaglcgennhiaaGreatDoor
open Go.RowKit Tx
theorem OwnT.weak {B B' : Nat} {w : World} {v : Value} {x : List ByteArray} (h : OwnT B w v x) (hB : B' ≤ B) : OwnT B' w v x :=
  ⟨h.1, h.2.imp id fun ⟨g, cap, cur, h1, h2, h3⟩ => ⟨g, cap, cur, h1, Nat.le_trans hB h2, h3⟩⟩
end Go.Proofs.YtbgaglcgennhiaaGreatDoor
end
section
/- what is reached of it -/
namespace Go.Proofs.YtbgaglcgennhiaaGreatDoor
open Go.RowKit Tx
/-- nothing turns below C where block b is as it was -/
theorem Btw.whole {b C : Nat} {w w' : World} (h : Btw b C w w') (hb : w'.heap[b]? = w.heap[b]?) : Below C w w' :=
  ⟨h.below.os, h.below.tape, h.below.output, h.below.size, fun g hg => by
    rcases Nat.lt_trichotomy g b with h1 | h1 | h1
    · exact h.below.block g h1
    · subst h1; exact hb
    · exact h.mid g h1 hg⟩
end Go.Proofs.YtbgaglcgennhiaaGreatDoor
end
section
/- what is reached of it -/
namespace Go.Proofs.YtbgaglcgennhiaaGreatDoor
open Go.RowKit Tx
theorem OwnT.cap {B : Nat} {w : World} {g cap n : Nat} {x : List ByteArray} (h : OwnT B w (.slice (Option.some ⟨g, 0, none⟩) n cap) x) : x.length ≤ cap := by
  rcases h.2 with ⟨e, _⟩ | ⟨g', cap', cur, e, _, _, h4, _⟩
  · simp at e
  · simp at e
    rw [e.2.2]
    exact h4
end Go.Proofs.YtbgaglcgennhiaaGreatDoor
end
section
/- what is reached of it -/
namespace Go.Proofs.YtbgaglcgennhiaaGreatDoor
open Go.RowKit Tx
/-- how the document's loop stands: o ahead, the rest from k on -/
def PStand (l : List UInt8) (k : Nat) (o : List UInt8) : Prop := plain l = (plain (l.drop k)).map (o ++ ·)
theorem PStand.start (l : List UInt8) : PStand l 0 [] := by unfold PStand; rw [List.drop_zero]; cases plain l <;> rfl
theorem PStand.done {l o : List UInt8} {k : Nat} (h : PStand l k o) (hk : l.length ≤ k) : plain l = some o := by
  unfold PStand at h
  rw [List.drop_eq_nil_of_le hk, plain_nil] at h
  simpa using h
section
variable {s : ByteArray} {k : Nat} {o : List UInt8}
theorem PStand.last (h : PStand s.data.toList k o) (hk : k < s.size) (h1 : (s[k]'hk) = 92) (h2 : ¬ k + 1 < s.size) : plain s.data.toList = none := by
  unfold PStand at h
  rw [h, drop_step hk, h1, List.drop_eq_nil_of_le (by rw [← Lib.size_eq]; omega), plain_end]
  rfl
theorem PStand.bad (h : PStand s.data.toList k o) (hk : k < s.size) (h1 : (s[k]'hk) = 92) (h2 : k + 1 < s.size) (h3 : unb (s[k + 1]'h2) = none) : plain s.data.toList = none := by
  unfold PStand at h
  rw [h, drop_step hk, h1, drop_step h2, plain_bad _ h3]
  rfl
end
end Go.Proofs.YtbgaglcgennhiaaGreatDoor
end
