/-
  ESCAPES: numbers, entities and what escape.Back tells, as values; nothing of any program's functions.
-/
import Derived.Test.YtbkfmbkamocllaaGreatDoorTxt
import Derived.Test.YtbkfmbkamocllaaGreatDoorMem
import Derived.WalkKit
import Derived.Test.YtbkfmbkamocllaaGreatDoorByt
import Derived.Laws.Cover4
import Derived.Lib.SlicesS
import Derived.Lib.IndexBytes
namespace Go.Proofs.YtbkfmbkamocllaaGreatDoor
open Go.RowKit Tx

/-- a number, or -1 -/
def numI : Option Nat → Int
  | some v => v
  | none => -1
theorem numF_lt {base : Nat} (hb : base ≤ 16) (h0 : 0 < base) : ∀ (l : List UInt8) (k v n : Nat), v < 16 ^ k → numF base v l = some n → n < 16 ^ (k + l.length)
  | [], k, v, n, hv, h => by
    obtain rfl : v = n := Option.some.inj h
    exact hv
  | c :: t, k, v, n, hv, h => by
    unfold numF at h
    split at h
    · cases h
    · rename_i hd
      have h2 : v * base + dg c.toNat < 16 ^ (k + 1) := by
        have h3 : v * base ≤ v * 16 := Nat.mul_le_mul_left _ hb
        rw [Nat.pow_succ]
        omega
      have := numF_lt hb h0 t (k + 1) _ n h2 h
      rw [List.length_cons, show k + (t.length + 1) = k + 1 + t.length by omega]
      exact this
theorem num_lt {base most n : Nat} {l : List UInt8} (hb : base ≤ 16) (h0 : 0 < base) (hm : most ≤ 7) (h : num base most l = some n) : n < 268435456 := by
  unfold num at h
  split at h
  · cases h
  · rename_i hl
    have := numF_lt hb h0 l 0 0 n (by omega) h
    have h2 : 16 ^ (0 + l.length) ≤ 16 ^ 7 := Nat.pow_le_pow_right (by omega) (by omega)
    omega
theorem dg_cases (c : Nat) (hc : c < 256) : (48 ≤ c ∧ c ≤ 57 ∧ dg c = c - 48) ∨ (97 ≤ c ∧ c ≤ 102 ∧ dg c = c - 87) ∨ (65 ≤ c ∧ c ≤ 70 ∧ dg c = c - 55) ∨
    ((c < 48 ∨ 57 < c) ∧ (c < 97 ∨ 102 < c) ∧ (c < 65 ∨ 70 < c) ∧ dg c = 99) := by
  unfold dg
  split
  · left; omega
  split
  · right; left; omega
  split
  · right; right; left; omega
  · right; right; right; omega

theorem charI_good (v : Nat) : charI (v : Int) = good v := by
  unfold good
  by_cases h : sane v
  · rw [decide_eq_true h, Bool.true_and]
    unfold sane at h
    exact charI_nat v (by omega) (by omega)
  · rw [decide_eq_false h, Bool.false_and]
    unfold sane at h
    unfold charI
    simp
    omega
theorem good_le {v : Nat} (h : good v = true) : sane v ∧ v ≤ 1114111 := by
  unfold good at h
  rw [Bool.and_eq_true] at h
  have := of_decide_eq_true h.1
  refine ⟨this, ?_⟩
  unfold sane at this
  omega
theorem bytes_eq {b : ByteArray} {l : List UInt8} (h : b.data.toList = l) : Value.string b = .string ⟨l.toArray⟩ := by rw [bytes_of h]
theorem oneRune {P : Program} {tb ts te : TypeId} (hb : P.underlying tb = some (.slice te)) (he : P.underlying te = some (.int .i32)) (hs : P.underlying ts = some .string) (x : Nat) (w : World) :
    (convert tb ts (.slice (some ⟨w.heap.size, 0, none⟩) 1 1)).run P (w.alloc (.cells #[.int .i32 x] te)) = .ok (.string ⟨(enc x).toArray⟩) (w.alloc (.cells #[.int .i32 x] te)) := by
  rw [run_convert_runes_string _ tb ts te _ _ _ hb he hs]
  have := run_runesToString (P := P) (w.alloc (.cells #[.int .i32 x] te)) ⟨w.heap.size, 0, none⟩ 1 1 [(x : Int)] (by
    have h := run_loadCells_list (P := P) (w := w.alloc (.cells #[.int .i32 x] te)) ⟨w.heap.size, 0, none⟩ [.int .i32 x] (by
      intro j v hj
      match j, hj with
      | 0, hj => simp at hj; subst hj; simp [Addr.add])
    exact h)
  rw [this, bytes_eq (l := enc x) (by
    rw [← enc_model]
    unfold runesBytes
    rw [List.foldl_cons, List.foldl_nil, cat_list, show (ByteArray.empty).data.toList = [] from rfl, List.nil_append])]
/-- an entity's bytes; none where it is none -/
def entB (l : List UInt8) : List UInt8 := match ent l with
  | some v => enc v
  | none => []
def entT (l : List UInt8) : Option Nat := match l with
    | 35 :: 120 :: t => Tx.keep (num 16 6 t)
    | 35 :: t => Tx.keep (num 10 7 t)
    | _ => none
def nmL : List ByteArray := [⟨#[97, 109, 112]⟩, ⟨#[108, 116]⟩, ⟨#[103, 116]⟩, ⟨#[113, 117, 111, 116]⟩, ⟨#[97, 112, 111, 115]⟩]
def sgL : List ByteArray := [⟨#[38]⟩, ⟨#[60]⟩, ⟨#[62]⟩, ⟨#[34]⟩, ⟨#[39]⟩]
theorem list_ne {s b : ByteArray} (h : b ≠ s) : s.data.toList ≠ b.data.toList := fun e => h (by
  have := congrArg List.toArray e
  simp at this
  exact (ByteArray.ext this).symm)
theorem ent_hit (k : Nat) (b : ByteArray) (h : nmL[k]? = some b) : ∃ g, sgL[k]? = some g ∧ entB b.data.toList = g.data.toList := by
  have H : ∀ k, k < 5 → ∃ g, sgL[k]? = some g ∧ ∀ b, nmL[k]? = some b → entB b.data.toList = g.data.toList := by
    intro k hk
    obtain rfl | rfl | rfl | rfl | rfl : k = 0 ∨ k = 1 ∨ k = 2 ∨ k = 3 ∨ k = 4 := by omega
    all_goals (refine ⟨_, rfl, ?_⟩; intro b hb; cases hb; decide +kernel)
  have hk : k < 5 := by
    have := (List.getElem?_eq_some_iff.1 h).1
    exact this
  obtain ⟨g, h1, h2⟩ := H k hk
  exact ⟨g, h1, h2 b h⟩
theorem ent_miss {s : ByteArray} (h : ∀ (j : Nat) (b : ByteArray), nmL[j]? = some b → b ≠ s) : ent s.data.toList = entT s.data.toList := by
  unfold ent entT
  rw [if_neg (list_ne (h 0 _ rfl)), if_neg (list_ne (h 1 _ rfl)), if_neg (list_ne (h 2 _ rfl)), if_neg (list_ne (h 3 _ rfl)), if_neg (list_ne (h 4 _ rfl))]
  rfl
theorem num_nil (b m : Nat) : num b m [] = none := by unfold num; rw [if_pos (.inl rfl)]
theorem entT_x {l : List UInt8} (h : l.take 2 = [35, 120]) : entT l = Tx.keep (num 16 6 (l.drop 2)) := by
  match l, h with
  | a :: b :: t, h =>
    simp only [List.take_succ_cons, List.take_zero, List.cons.injEq, and_true] at h
    obtain ⟨rfl, rfl⟩ := h
    rfl
  | [a], h => simp at h
  | [], h => simp at h
theorem entT_d {l : List UInt8} (h : ¬ l.take 2 = [35, 120]) (h0 : l[0]? = some 35) : entT l = Tx.keep (num 10 7 (l.drop 1)) := by
  match l, h, h0 with
  | [a], h, h0 =>
    obtain rfl : a = 35 := by simpa using h0
    rfl
  | a :: b :: t, h, h0 =>
    obtain rfl : a = 35 := by simpa using h0
    have hb : b ≠ 120 := fun e => h (by rw [e]; rfl)
    unfold entT
    split
    · rename_i heq; simp only [List.cons.injEq, true_and] at heq; exact absurd heq.1 hb
    · rename_i heq; simp only [List.cons.injEq, true_and] at heq; rw [← heq]; rfl
    · rename_i h1 h2; exact absurd rfl (h2 _)
theorem entT_n {l : List UInt8} (h0 : l[0]? ≠ some 35) : entT l = none := by
  unfold entT
  split
  · exact absurd rfl h0
  · exact absurd rfl h0
  · rfl
theorem keep_none : Tx.keep none = none := rfl
theorem keep_good {v : Nat} (h : good v = true) : Tx.keep (some v) = some v := by unfold Tx.keep; simp only; rw [if_pos h]
theorem keep_bad {v : Nat} (h : good v = false) : Tx.keep (some v) = none := by unfold Tx.keep; simp only; rw [if_neg (by rw [h]; decide)]
/-- the three ends of a number -/
theorem keep_cases (o : Option Nat) : (o = none ∧ Tx.keep o = none) ∨ (∃ v, o = some v ∧ good v = false ∧ Tx.keep o = none) ∨ ∃ v, o = some v ∧ good v = true ∧ Tx.keep o = some v := by
  cases o with
  | none => exact .inl ⟨rfl, rfl⟩
  | some v =>
    cases h : good v with
    | false => exact .inr (.inl ⟨v, rfl, h, keep_bad h⟩)
    | true => exact .inr (.inr ⟨v, rfl, h, keep_good h⟩)
theorem entT_d2 {l : List UInt8} (h : ¬ (2 < l.length ∧ l.take 2 = [35, 120])) (h0 : l[0]? = some 35) : entT l = Tx.keep (num 10 7 (l.drop 1)) := by
  by_cases h1 : l.take 2 = [35, 120]
  · have h2 : ¬ 2 < l.length := fun h3 => h ⟨h3, h1⟩
    match l, h1, h2 with
    | [a], h1, _ => simp at h1
    | [], h1, _ => simp at h1
    | [a, b], h1, _ =>
      simp only [List.take_succ_cons, List.take_zero, List.cons.injEq, and_true] at h1
      obtain ⟨rfl, rfl⟩ := h1
      decide +kernel
    | a :: b :: c :: t, _, h2 => simp at h2
  · exact entT_d h1 h0
theorem entT_s {l : List UInt8} (h : l.length ≤ 1) : entT l = none := by
  match l, h with
  | [], _ => rfl
  | [a], _ =>
    by_cases h0 : a = 35
    · subst h0; decide +kernel
    · exact entT_n (by simpa using h0)
  | a :: b :: t, h => simp at h
theorem lit2 : (⟨#[35, 120]⟩ : ByteArray).toList = [35, 120] := ByteArray.toList_mk [35, 120]
theorem numI_none : numI none = -1 := rfl
theorem numI_some (v : Nat) : numI (some v) = (v : Int) := rfl
theorem entB_none {l : List UInt8} (h : ent l = none) : entB l = [] := by unfold entB; rw [h]
theorem entB_some {l : List UInt8} {v : Nat} (h : ent l = some v) : entB l = enc v := by unfold entB; rw [h]
theorem first_of {s : ByteArray} (h : 0 < s.size) : s.data.toList[0]? = some (s[0]'h) := Lib.data_getElem? s 0 h
theorem take2_of {s : ByteArray} : (s.extract 0 2).data.toList = s.data.toList.take 2 := by simp [ByteArray.data_extract]

/-- What a text comes back as, or why not. -/
def backV (l : List UInt8) : Value := if valid l then (match back l with
    | some x => .tuple #[.string ⟨x.toArray⟩, .int .i64 0]
    | none => .tuple #[.string ⟨#[]⟩, .int .i64 5]) else .tuple #[.string ⟨#[]⟩, .int .i64 3]
theorem backV_utf {l : List UInt8} (h : valid l = false) : backV l = .tuple #[.string ⟨#[]⟩, .int .i64 3] := by unfold backV; rw [if_neg (by rw [h]; decide)]
theorem backV_none {l : List UInt8} (h : valid l = true) (h2 : back l = none) : backV l = .tuple #[.string ⟨#[]⟩, .int .i64 5] := by unfold backV; rw [if_pos h, h2]
theorem backV_some {l x : List UInt8} (h : valid l = true) (h2 : back l = some x) : backV l = .tuple #[.string ⟨x.toArray⟩, .int .i64 0] := by unfold backV; rw [if_pos h, h2]
theorem entB_le (l : List UInt8) : (entB l).length ≤ 4 := by
  unfold entB
  split
  · exact enc_len.2
  · simp
theorem entB_ne {l : List UInt8} {v : Nat} (h : ent l = some v) : entB l ≠ [] := by rw [entB_some h]; exact enc_ne v

end Go.Proofs.YtbkfmbkamocllaaGreatDoor
