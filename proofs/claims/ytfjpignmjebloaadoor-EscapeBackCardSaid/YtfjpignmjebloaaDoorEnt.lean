/-
  THE DOCUMENT's OWN ENTITIES: cardexref01.utf and cardexref01.entity.
-/
import Derived.Test.YtfjpignmjebloaaDoorNum
import Derived.Laws.Cover4
import Derived.Lib.SlicesS
import Derived.Lib.IndexBytes
namespace Go.Proofs.YtfjpignmjebloaaDoor
open Go.RowKit Tx

theorem charI_good (v : Nat) : charI (v : Int) = good v := by
  unfold good
  by_cases h : sane v
  · rw [decide_eq_true h, Bool.true_and]
    unfold sane at h
    exact charI_nat v (by omega) (by omega)
  · rw [decide_eq_false h, Bool.false_and]
    unfold sane at h
    unfold charI
    simp
    omega
theorem good_le {v : Nat} (h : good v = true) : sane v ∧ v ≤ 1114111 := by
  unfold good at h
  rw [Bool.and_eq_true] at h
  have := of_decide_eq_true h.1
  refine ⟨this, ?_⟩
  unfold sane at this
  omega
theorem bytes_eq {b : ByteArray} {l : List UInt8} (h : b.data.toList = l) : Value.string b = .string ⟨l.toArray⟩ := by rw [bytes_of h]
theorem oneRune {P : Program} {tb ts te : TypeId} (hb : P.underlying tb = some (.slice te)) (he : P.underlying te = some (.int .i32)) (hs : P.underlying ts = some .string) (x : Nat) (w : World) :
    (convert tb ts (.slice (some ⟨w.heap.size, 0, none⟩) 1 1)).run P (w.alloc (.cells #[.int .i32 x] te)) = .ok (.string ⟨(enc x).toArray⟩) (w.alloc (.cells #[.int .i32 x] te)) := by
  rw [run_convert_runes_string _ tb ts te _ _ _ hb he hs]
  have := run_runesToString (P := P) (w.alloc (.cells #[.int .i32 x] te)) ⟨w.heap.size, 0, none⟩ 1 1 [(x : Int)] (by
    have h := run_loadCells_list (P := P) (w := w.alloc (.cells #[.int .i32 x] te)) ⟨w.heap.size, 0, none⟩ [.int .i32 x] (by
      intro j v hj
      match j, hj with
      | 0, hj => simp at hj; subst hj; simp [Addr.add])
    exact h)
  rw [this, bytes_eq (l := enc x) (by
    rw [← enc_model]
    unfold runesBytes
    rw [List.foldl_cons, List.foldl_nil, cat_list, show (ByteArray.empty).data.toList = [] from rfl, List.nil_append])]
set_option maxHeartbeats 400000 in
set_option maxRecDepth 100000 in
theorem utf_any (c : Nat) (w : World) (hc : c ≤ 1114111) :
    Calls Tryd.prog 42 #[.int .i64 c] w fun e w' => e = .returned (.string ⟨(enc c).toArray⟩) ∧ Below w.heap.size w w' := by
  have hcv := oneRune (P := Tryd.prog) Tryd.underlying94 Tryd.underlying21 Tryd.underlying9 c w
  obtain ⟨z, hz⟩ : ∃ z : Int, (c : Int) = z := ⟨_, rfl⟩
  have z0 : 0 ≤ z := by omega
  have z1 : z ≤ 1114111 := by omega
  rw [hz] at hcv ⊢
  clear hz hc
  obtain ⟨x, hx⟩ : ∃ x, (enc c).toArray = x := ⟨_, rfl⟩
  rw [hx] at hcv ⊢
  clear hx
  go_enter Tryd.func42, Tryd.ntmps42
  go_wp2
  go_ret
  exact ⟨rfl, (Below.refl _ _).alloc (Nat.le_refl _) _⟩

/-- an entity's bytes; none where it is none -/
def entB (l : List UInt8) : List UInt8 := match ent l with
  | some v => enc v
  | none => []
def entT (l : List UInt8) : Option Nat := match l with
    | 35 :: 120 :: t => Tx.keep (num 16 6 t)
    | 35 :: t => Tx.keep (num 10 7 t)
    | _ => none
def nmL : List ByteArray := [⟨#[97, 109, 112]⟩, ⟨#[108, 116]⟩, ⟨#[103, 116]⟩, ⟨#[113, 117, 111, 116]⟩, ⟨#[97, 112, 111, 115]⟩]
def sgL : List ByteArray := [⟨#[38]⟩, ⟨#[60]⟩, ⟨#[62]⟩, ⟨#[34]⟩, ⟨#[39]⟩]
theorem list_ne {s b : ByteArray} (h : b ≠ s) : s.data.toList ≠ b.data.toList := fun e => h (by
  have := congrArg List.toArray e
  simp at this
  exact (ByteArray.ext this).symm)
theorem ent_hit (k : Nat) (b : ByteArray) (h : nmL[k]? = some b) : ∃ g, sgL[k]? = some g ∧ entB b.data.toList = g.data.toList := by
  have H : ∀ k, k < 5 → ∃ g, sgL[k]? = some g ∧ ∀ b, nmL[k]? = some b → entB b.data.toList = g.data.toList := by
    intro k hk
    obtain rfl | rfl | rfl | rfl | rfl : k = 0 ∨ k = 1 ∨ k = 2 ∨ k = 3 ∨ k = 4 := by omega
    all_goals (refine ⟨_, rfl, ?_⟩; intro b hb; cases hb; decide +kernel)
  have hk : k < 5 := by
    have := (List.getElem?_eq_some_iff.1 h).1
    exact this
  obtain ⟨g, h1, h2⟩ := H k hk
  exact ⟨g, h1, h2 b h⟩
theorem ent_miss {s : ByteArray} (h : ∀ (j : Nat) (b : ByteArray), nmL[j]? = some b → b ≠ s) : ent s.data.toList = entT s.data.toList := by
  unfold ent entT
  rw [if_neg (list_ne (h 0 _ rfl)), if_neg (list_ne (h 1 _ rfl)), if_neg (list_ne (h 2 _ rfl)), if_neg (list_ne (h 3 _ rfl)), if_neg (list_ne (h 4 _ rfl))]
  rfl
theorem num_nil (b m : Nat) : num b m [] = none := by unfold num; rw [if_pos (.inl rfl)]
theorem entT_x {l : List UInt8} (h : l.take 2 = [35, 120]) : entT l = Tx.keep (num 16 6 (l.drop 2)) := by
  match l, h with
  | a :: b :: t, h =>
    simp only [List.take_succ_cons, List.take_zero, List.cons.injEq, and_true] at h
    obtain ⟨rfl, rfl⟩ := h
    rfl
  | [a], h => simp at h
  | [], h => simp at h
theorem entT_d {l : List UInt8} (h : ¬ l.take 2 = [35, 120]) (h0 : l[0]? = some 35) : entT l = Tx.keep (num 10 7 (l.drop 1)) := by
  match l, h, h0 with
  | [a], h, h0 =>
    obtain rfl : a = 35 := by simpa using h0
    rfl
  | a :: b :: t, h, h0 =>
    obtain rfl : a = 35 := by simpa using h0
    have hb : b ≠ 120 := fun e => h (by rw [e]; rfl)
    unfold entT
    split
    · rename_i heq; simp only [List.cons.injEq, true_and] at heq; exact absurd heq.1 hb
    · rename_i heq; simp only [List.cons.injEq, true_and] at heq; rw [← heq]; rfl
    · rename_i h1 h2; exact absurd rfl (h2 _)
theorem entT_n {l : List UInt8} (h0 : l[0]? ≠ some 35) : entT l = none := by
  unfold entT
  split
  · exact absurd rfl h0
  · exact absurd rfl h0
  · rfl
theorem keep_none : Tx.keep none = none := rfl
theorem keep_good {v : Nat} (h : good v = true) : Tx.keep (some v) = some v := by unfold Tx.keep; simp only; rw [if_pos h]
theorem keep_bad {v : Nat} (h : good v = false) : Tx.keep (some v) = none := by unfold Tx.keep; simp only; rw [if_neg (by rw [h]; decide)]
/-- the three ends of a number -/
theorem keep_cases (o : Option Nat) : (o = none ∧ Tx.keep o = none) ∨ (∃ v, o = some v ∧ good v = false ∧ Tx.keep o = none) ∨ ∃ v, o = some v ∧ good v = true ∧ Tx.keep o = some v := by
  cases o with
  | none => exact .inl ⟨rfl, rfl⟩
  | some v =>
    cases h : good v with
    | false => exact .inr (.inl ⟨v, rfl, h, keep_bad h⟩)
    | true => exact .inr (.inr ⟨v, rfl, h, keep_good h⟩)
end Go.Proofs.YtfjpignmjebloaaDoor
