/-
  A tree of a root and its kids, over plain lists: it is right, and what is written of it. Nothing of any program.
-/
import Derived.Test.YtbkfmbkamocllaaDoorCanR
import Derived.Test.YtbkfmbkamocllaaDoorCnS
namespace Go.Proofs.YtbkfmbkamocllaaDoor.Cn
open Go.Lib Tx Tk Tr

def rootN : Nd := (-1, 0, [114], [], [], [])
def kidN (p : List UInt8 × List UInt8) : Nd := (0, 0, [107], p.1, [], p.2)
def nsOf (ks : List (List UInt8 × List UInt8)) : List Nd := rootN :: ks.map kidN
def kidT (p : List UInt8 × List UInt8) : List UInt8 := [60, 107] ++ ((if p.1 = [] then [] else [32, 120, 109, 108, 110, 115, 61, 39] ++ p.1 ++ [39]) ++ (if p.2 = [] then [47, 62] else [62] ++ esc p.2 ++ [60, 47, 107, 62]))
def OkK (p : List UInt8 × List UInt8) : Prop := (p.1 = [] ∨ p.1 = [117] ∨ p.1 = [118]) ∧ valid p.2 = true
theorem nsOf_snoc (ks : List (List UInt8 × List UInt8)) (p : List UInt8 × List UInt8) : nsOf (ks ++ [p]) = nsOf ks ++ [kidN p] := by simp [nsOf]
theorem nsOf_len (ks : List (List UInt8 × List UInt8)) : (nsOf ks).length = ks.length + 1 := by simp [nsOf]
theorem nsOf_get {ks : List (List UInt8 × List UInt8)} {j : Nat} {p : List UInt8 × List UInt8} (h : ks[j]? = some p) : (nsOf ks)[j + 1]? = some (kidN p) := by simp [nsOf, h]
theorem par_0 (ks : List (List UInt8 × List UInt8)) : par (nsOf ks) 0 = -1 := rfl
theorem par_k {ks : List (List UInt8 × List UInt8)} {j : Nat} (h : j < ks.length) : par (nsOf ks) (j + 1) = 0 := by
  rw [par_some (nsOf_get (List.getElem?_eq_getElem h))]
  rfl
theorem low_k (ks : List (List UInt8 × List UInt8)) : Low (nsOf ks) := fun i => by
  cases i with
  | zero => rw [par_0]; decide
  | succ j =>
    rcases Nat.lt_or_ge j ks.length with h | h
    · rw [par_k h]; omega
    · rw [par_none (by rw [nsOf_len]; omega)]; omega
theorem valid_u : valid [117] = true ∧ valid [118] = true ∧ valid [] = true := by decide +kernel
theorem nsOf_right {ks : List (List UInt8 × List UInt8)} (hl : ks.length ≤ 20) (hk : ∀ p ∈ ks, OkK p) : Right (nsOf ks) := by
  have hlow := low_k ks
  have h0 : up (nsOf ks) ((0 : Nat) : Int) = [0] := by rw [up_pos hlow, par_0, up_neg (by decide)]
  refine ⟨by simp [nsOf], by rw [nsOf_len]; omega, par_0 ks, fun x hx => ?_, fun i hi hil => ?_⟩
  · unfold nsOf at hx
    rcases List.mem_cons.1 hx with rfl | hx
    · exact ⟨by decide +kernel, by decide +kernel, by decide +kernel, by decide, by decide, fun a h => by cases h⟩
    · obtain ⟨p, hp, rfl⟩ := List.mem_map.1 hx
      obtain ⟨h1, h2⟩ := hk p hp
      refine ⟨show nameT [107] = true by decide +kernel, h2, ?_, Nat.zero_le _, List.nodup_nil, fun a h => by cases h⟩
      show valid p.1 = true
      rcases h1 with e | e | e
      · rw [e]; exact valid_u.2.2
      · rw [e]; exact valid_u.1
      · rw [e]; exact valid_u.2.1
  · obtain ⟨j, rfl⟩ : ∃ j, i = j + 1 := ⟨i - 1, by omega⟩
    rw [nsOf_len] at hil
    refine ⟨0, by rw [par_k (by omega)]; rfl, by omega, ?_, rfl, by rw [h0]; decide⟩
    rw [show ((j + 1 : Nat) : Int) - 1 = (j : Int) by omega]
    cases j with
    | zero => rw [h0]; exact List.mem_cons_self
    | succ m =>
      rw [up_pos hlow, par_k (by omega)]
      refine List.mem_cons_of_mem _ ?_
      have : (0 : Int) = ((0 : Nat) : Int) := rfl
      rw [this, h0]
      exact List.mem_cons_self
theorem kidsF_all : ∀ (k : Nat) (l : List (List UInt8 × List UInt8)), kidsF 0 k (l.map kidN) = (List.range l.length).map (k + ·)
  | k, [] => rfl
  | k, p :: l => by
    rw [List.map_cons, kidsF, if_pos (show (kidN p).1 = 0 from rfl), kidsF_all (k + 1) l, List.length_cons, List.range_succ_eq_map, List.map_cons, List.map_map]
    congr 1
    refine List.map_congr_left fun a _ => ?_
    show k + 1 + a = k + (a + 1)
    omega
theorem kids_root (ks : List (List UInt8 × List UInt8)) : kidsL (nsOf ks) ((0 : Nat) : Int) = (List.range ks.length).map (1 + ·) := by
  unfold kidsL
  rw [if_pos (by rw [nsOf_len]; omega)]
  show kidsF 0 0 (rootN :: ks.map kidN) = _
  rw [kidsF, if_neg (by decide), kidsF_all]
theorem kidsF_no {i : Int} (h : i ≠ 0) : ∀ (k : Nat) (l : List (List UInt8 × List UInt8)), kidsF i k (l.map kidN) = []
  | _, [] => rfl
  | k, p :: l => by
    rw [List.map_cons, kidsF, if_neg (show (kidN p).1 ≠ i from fun e => h e.symm), kidsF_no h (k + 1) l]
theorem kids_kid (ks : List (List UInt8 × List UInt8)) (j : Nat) : kidsL (nsOf ks) ((j + 1 : Nat) : Int) = [] := by
  unfold kidsL
  split
  · show kidsF _ 0 (rootN :: ks.map kidN) = _
    rw [kidsF, if_neg (show ¬ rootN.1 = ((j + 1 : Nat) : Int) from fun e => by have e2 : (-1 : Int) = ((j + 1 : Nat) : Int) := e; omega), kidsF_no (by omega)]
  · rfl
theorem esc_uv : esc [117] = [117] ∧ esc [118] = [118] := by decide +kernel
theorem write_kid {ks : List (List UInt8 × List UInt8)} {j : Nat} {p : List UInt8 × List UInt8} (h : ks[j]? = some p) (hp : OkK p) (f : Nat) : writeF (nsOf ks) (f + 1) (j + 1) [] = kidT p := by
  have hat : headT (kidN p) [] = [60, 107] ++ (if p.1 = [] then [] else [32, 120, 109, 108, 110, 115, 61, 39] ++ p.1 ++ [39]) := by
    unfold headT allA
    show 60 :: ([107] ++ attrsT ((if p.1 = [] then [] else [(xmlnsL, p.1)]) ++ [])) = _
    rcases hp.1 with e | e | e
    · rw [e]; rfl
    · rw [e, if_neg (by decide), if_neg (by decide)]
      simp [attrsT, attrT, esc_uv.1, xmlnsL]
    · rw [e, if_neg (by decide), if_neg (by decide)]
      simp [attrsT, attrT, esc_uv.2, xmlnsL]
  rw [writeF, nsOf_get h]
  simp only
  rw [kids_kid, hat]
  show (if p.2 = [] ∧ ([] : List Nat) = [] then _ else _) = _
  unfold kidT
  by_cases ht : p.2 = []
  · rw [if_pos ⟨ht, rfl⟩, if_pos ht, List.append_assoc]
  · rw [if_neg (fun e => ht e.1), if_neg ht, List.append_assoc]
    congr 2
theorem flat_kids {ks : List (List UInt8 × List UInt8)} (hk : ∀ p ∈ ks, OkK p) (f : Nat) : (kidsL (nsOf ks) ((0 : Nat) : Int)).flatMap (fun k => writeF (nsOf ks) (f + 1) k []) = ks.flatMap kidT := by
  rw [kids_root, List.flatMap_map]
  have : ∀ m, m ≤ ks.length → (List.range m).flatMap (fun j => writeF (nsOf ks) (f + 1) (1 + j) []) = (ks.take m).flatMap kidT := fun m => by
    induction m with
    | zero => intro _; rfl
    | succ m ih =>
      intro hm
      have hg : ks[m]? = some ks[m] := List.getElem?_eq_getElem (by omega)
      rw [List.range_succ, List.flatMap_append, ih (by omega), List.take_add_one, hg, List.flatMap_append]
      congr 1
      simp only [List.flatMap_cons, List.flatMap_nil, List.append_nil, Option.toList_some]
      rw [Nat.add_comm 1 m]
      exact write_kid hg (hk _ (List.getElem_mem _)) f
  have h := this ks.length (Nat.le_refl _)
  rwa [List.take_length] at h
def formsT (ks : List (List UInt8 × List UInt8)) : List UInt8 := if ks = [] then headL ++ [10, 60, 114, 47, 62] else (headL ++ [10, 60, 114, 62]) ++ ks.flatMap kidT ++ [60, 47, 114, 62]
theorem canon_forms {ks : List (List UInt8 × List UInt8)} (hk : ∀ p ∈ ks, OkK p) : canonT (nsOf ks) = formsT ks := by
  have hw : writeF (nsOf ks) 12 0 [] = if ks = [] then [60, 114, 47, 62] else [60, 114, 62] ++ ks.flatMap kidT ++ [60, 47, 114, 62] := by
    rw [writeF]
    show (if rootN.2.2.2.2.2 = [] ∧ kidsL (nsOf ks) ((0 : Nat) : Int) = [] then headT rootN [] ++ [47, 62] else headT rootN [] ++ ([62] ++ (esc rootN.2.2.2.2.2 ++ ((kidsL (nsOf ks) ((0 : Nat) : Int)).flatMap (fun k => writeF (nsOf ks) 11 k []) ++ closeT [114])))) = _
    rw [flat_kids hk 10, kids_root]
    cases ks with
    | nil => rfl
    | cons p l =>
      rw [if_neg (by simp), if_neg (by simp)]
      simp [headT, allA, rootN, attrsT, closeT, esc_nil]
  unfold canonT formsT
  rw [hw]
  split <;> simp
theorem forms_right {ks : List (List UInt8 × List UInt8)} (hl : ks.length ≤ 20) (hk : ∀ p ∈ ks, OkK p) : rightB (nsOf ks) = true := right_iff.2 (nsOf_right hl hk)
theorem forms_own {ks : List (List UInt8 × List UInt8)} (hl : ks.length ≤ 20) (hk : ∀ p ∈ ks, OkK p ∧ p.2.length ≤ 100) : ((nsOf ks).map ownL).sum ≤ 1000000000 := by
  have : ∀ l : List (List UInt8 × List UInt8), (∀ p ∈ l, OkK p ∧ p.2.length ≤ 100) → ((l.map kidN).map ownL).sum ≤ 1000 * l.length := fun l => by
    induction l with
    | nil => intro _; exact Nat.zero_le _
    | cons p l ih =>
      intro h
      have h1 := ih (fun q hq => h q (List.mem_cons_of_mem _ hq))
      obtain ⟨⟨h2, _⟩, h3⟩ := h p List.mem_cons_self
      have h4 : p.1.length ≤ 1 := by rcases h2 with e | e | e <;> rw [e] <;> decide
      have h5 : ownL (kidN p) = 20 + 2 * 1 + 6 * p.1.length + 6 * p.2.length + 0 := rfl
      rw [List.map_cons, List.map_cons, List.sum_cons, List.length_cons]
      omega
  have h1 := this ks hk
  have h2 : ownL rootN = 22 := rfl
  unfold nsOf
  rw [List.map_cons, List.sum_cons]
  omega
theorem kidT_len {p : List UInt8 × List UInt8} (h : OkK p) (h2 : p.2.length ≤ 100) : (kidT p).length ≤ 1000 := by
  have h4 : p.1.length ≤ 1 := by rcases h.1 with e | e | e <;> rw [e] <;> decide
  have h5 := esc_len p.2
  unfold kidT
  split <;> split <;> simp only [List.length_append, List.length_cons, List.length_nil] <;> omega
end Go.Proofs.YtbkfmbkamocllaaDoor.Cn
