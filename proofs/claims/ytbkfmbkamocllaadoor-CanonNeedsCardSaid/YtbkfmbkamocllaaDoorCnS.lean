/-
  TREES AS FILES over plain lists: how long what is written is. Nothing of any program.
-/
import Derived.Test.YtbkfmbkamocllaaDoorCanR
namespace Go.Proofs.YtbkfmbkamocllaaDoor.Cn
open Go.Lib Tx Tk Tr

def ownA (as : List Att) : Nat := (as.map fun a => 4 + a.1.length + 6 * a.2.length).sum
def ownL (x : Nd) : Nat := 20 + 2 * x.2.2.1.length + 6 * x.2.2.2.1.length + 6 * x.2.2.2.2.2.length + ownA x.2.2.2.2.1
def span (ns : List Nd) (a b : Nat) : Nat := (((ns.drop a).take (b - a)).map ownL).sum
theorem span_split (ns : List Nd) {a b c : Nat} (h1 : a ≤ b) (h2 : b ≤ c) : span ns a c = span ns a b + span ns b c := by
  unfold span
  rw [show c - a = (b - a) + (c - b) by omega, List.take_add, List.map_append, List.sum_append, List.drop_drop, show a + (b - a) = b by omega]
theorem span_one {ns : List Nd} {i : Nat} {x : Nd} (h : ns[i]? = some x) : span ns i (i + 1) = ownL x := by
  obtain ⟨h1, h2⟩ := List.getElem?_eq_some_iff.1 h
  unfold span
  rw [List.drop_eq_getElem_cons h1, h2, show i + 1 - i = 1 by omega]
  simp
theorem attrT_len (n v : List UInt8) : (attrT n v).length ≤ 4 + n.length + 6 * v.length := by
  unfold attrT
  have := esc_len v
  simp only [List.length_cons, List.length_append, List.length_nil]
  omega
theorem attrsT_len : ∀ as : List Att, (attrsT as).length ≤ ownA as
  | [] => Nat.le_refl _
  | a :: as => by
    have h1 := attrsT_len as
    have h2 := attrT_len a.1 a.2
    unfold attrsT ownA at *
    rw [List.flatMap_cons, List.length_append, List.map_cons, List.sum_cons]
    omega
theorem ownA_append (a b : List Att) : ownA (a ++ b) = ownA a + ownA b := by unfold ownA; rw [List.map_append, List.sum_append]
theorem allA_len (x : Nd) (sp : List UInt8) : ownA (allA x sp) ≤ 9 + 6 * x.2.2.2.1.length + ownA x.2.2.2.2.1 := by
  unfold allA
  rw [ownA_append]
  split
  · have : ownA [] = 0 := rfl
    omega
  · have : ownA [(xmlnsL, x.2.2.2.1)] = 4 + 5 + 6 * x.2.2.2.1.length := by
      unfold ownA
      simp [xmlnsL]
    omega
theorem headT_len (x : Nd) (sp : List UInt8) : (headT x sp).length ≤ 10 + x.2.2.1.length + 6 * x.2.2.2.1.length + ownA x.2.2.2.2.1 := by
  have h1 := attrsT_len (allA x sp)
  have h2 := allA_len x sp
  unfold headT
  simp only [List.length_cons, List.length_append]
  omega
theorem kids_len {ns : List Nd} (h : Right ns) {i : Nat} {g : Nat → List UInt8} (hi : i < ns.length) (hg : ∀ k, k < ns.length → (g k).length ≤ span ns k (endOf ns k)) :
    ∀ (m k : Nat), endOf ns i - k ≤ m → i < k → k ≤ endOf ns i → (k = endOf ns i ∨ par ns k = (i : Int)) → ((kidsFrom ns i k).flatMap g).length ≤ span ns k (endOf ns i)
  | m, k, hm, h1, h2, h3 => by
    rcases Nat.eq_or_lt_of_le h2 with rfl | h4
    · rw [kids_no h]
      exact Nat.zero_le _
    · have hp : par ns k = (i : Int) := h3.resolve_left (by omega)
      have hkn : k < ns.length := Nat.lt_of_lt_of_le h4 (end_le ns hi)
      have hke := end_gt ns k
      have hw := end_within hi h1 h4
      cases m with
      | zero => omega
      | succ m =>
        have ih := kids_len h hi hg m (endOf ns k) (by omega) (by omega) hw (by
          rcases Nat.eq_or_lt_of_le hw with e | e
          · exact .inl e
          · exact .inr (kid_next h hi h1 h4 hp e))
        have h5 := hg k hkn
        rw [kids_one h hkn hp, List.flatMap_cons, List.length_append, span_split ns (Nat.le_of_lt hke) hw]
        omega
theorem writeF_len {ns : List Nd} (h : Right ns) : ∀ (f i : Nat) (sp : List UInt8), i < ns.length → (writeF ns f i sp).length ≤ span ns i (endOf ns i)
  | 0, i, sp, _ => Nat.zero_le _
  | f + 1, i, sp, hi => by
    obtain ⟨x, hx⟩ : ∃ x, ns[i]? = some x := ⟨_, List.getElem?_eq_getElem hi⟩
    have hge := end_gt ns i
    have hsp := span_split ns (a := i) (b := i + 1) (c := endOf ns i) (by omega) (by omega)
    rw [span_one hx] at hsp
    have h1 := headT_len x sp
    have h2 := esc_len x.2.2.2.2.2
    have hk := kids_len h hi (g := fun k => writeF ns f k x.2.2.2.1) (fun k hk => writeF_len h f k _ hk) _ (i + 1) (Nat.le_refl _) (by omega) (by omega) (by
      rcases Nat.lt_or_ge (i + 1) (endOf ns i) with h4 | h4
      · exact .inr (kid_first h hi h4)
      · exact .inl (by omega))
    rw [← kids_from h.low hi] at hk
    unfold writeF
    rw [hx]
    simp only
    unfold ownL at hsp
    split
    · rw [List.length_append, hsp]
      simp only [List.length_cons, List.length_nil]
      omega
    · unfold closeT
      rw [List.length_append, List.length_append, List.length_append, List.length_append, hsp]
      simp only [List.length_cons, List.length_nil, List.length_append]
      omega
theorem span_all (ns : List Nd) : span ns 0 ns.length = (ns.map ownL).sum := by
  unfold span
  rw [List.drop_zero, Nat.sub_zero, List.take_length]
theorem span_le (ns : List Nd) {a b : Nat} (h1 : a ≤ b) (h2 : b ≤ ns.length) : span ns a b ≤ (ns.map ownL).sum := by
  rw [← span_all]
  have e1 := span_split ns (a := 0) (b := a) (c := ns.length) (Nat.zero_le _) (by omega)
  have e2 := span_split ns (a := a) (b := b) (c := ns.length) h1 h2
  omega
theorem write_le {ns : List Nd} (h : Right ns) {f i : Nat} {sp : List UInt8} (hi : i < ns.length) : (writeF ns f i sp).length ≤ (ns.map ownL).sum :=
  Nat.le_trans (writeF_len h f i sp hi) (span_le ns (Nat.le_of_lt (end_gt ns i)) (end_le ns hi))
/-- .. of a node's kids alone, as many as they are -/
theorem kids_le {ns : List Nd} (h : Right ns) {f i : Nat} {sp : List UInt8} (hi : i < ns.length) (j : Nat) : (((kidsL ns (i : Int)).take j).flatMap (fun k => writeF ns f k sp)).length ≤ (ns.map ownL).sum := by
  have hge := end_gt ns i
  have hk := kids_len h hi (g := fun k => writeF ns f k sp) (fun k hk => writeF_len h f k _ hk) _ (i + 1) (Nat.le_refl _) (by omega) (by omega) (by
    rcases Nat.lt_or_ge (i + 1) (endOf ns i) with h4 | h4
    · exact .inr (kid_first h hi h4)
    · exact .inl (by omega))
  rw [← kids_from h.low hi] at hk
  have h2 := span_le ns (a := i + 1) (b := endOf ns i) (by omega) (end_le ns hi)
  have h3 : ((kidsL ns (i : Int)).flatMap (fun k => writeF ns f k sp)).length = (((kidsL ns (i : Int)).take j).flatMap (fun k => writeF ns f k sp)).length + (((kidsL ns (i : Int)).drop j).flatMap (fun k => writeF ns f k sp)).length := by
    rw [← List.length_append, ← List.flatMap_append, List.take_append_drop]
  omega
theorem own_le {ns : List Nd} {x : Nd} (h : x ∈ ns) : ownL x ≤ (ns.map ownL).sum := by
  obtain ⟨i, hi⟩ := List.mem_iff_getElem?.1 h
  rw [← span_one hi]
  exact span_le ns (Nat.le_succ i) (List.getElem?_eq_some_iff.1 hi).1
theorem ownA_mem {as : List Att} {a : Att} (h : a ∈ as) : a.1.length ≤ ownA as ∧ a.2.length ≤ ownA as := by
  induction as with
  | nil => cases h
  | cons b as ih =>
    unfold ownA at *
    rw [List.map_cons, List.sum_cons]
    rcases List.mem_cons.1 h with rfl | h
    · omega
    · have := ih h; omega
theorem ownA_count : ∀ as : List Att, as.length ≤ ownA as
  | [] => Nat.le_refl _
  | a :: as => by
    have := ownA_count as
    unfold ownA at *
    rw [List.map_cons, List.sum_cons, List.length_cons]
    omega
end Go.Proofs.YtbkfmbkamocllaaDoor.Cn
