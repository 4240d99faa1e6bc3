/-
  cardexref08: write (it calls itself), Canon.
-/
import Derived.Test.YtbkfmbkamocllaaDoorRnB
import Derived.Test.YtbkfmbkamocllaaDoorRKid
import Derived.Test.YtbkfmbkamocllaaDoorCnG
namespace Go.Proofs.YtbkfmbkamocllaaDoor
open Go.RowKit Tk Tr Cn

theorem step_cat (h n v : List UInt8) : (bts h ++ ⟨#[32]⟩ ++ bts n ++ ⟨#[61, 39]⟩ ++ bts (Tx.esc v) ++ ⟨#[39]⟩ : ByteArray) = bts (h ++ attrT n v) := by
  apply ByteArray.ext
  apply Array.ext'
  simp [attrT]
theorem xmlns_cat (h sp : List UInt8) : (bts h ++ ⟨#[32, 120, 109, 108, 110, 115, 61, 39]⟩ ++ bts (Tx.esc sp) ++ ⟨#[39]⟩ : ByteArray) = bts (h ++ attrT xmlnsL sp) := by
  apply ByteArray.ext
  apply Array.ext'
  simp [attrT, xmlnsL]
theorem lead_cat (n : List UInt8) : (⟨#[60]⟩ ++ bts n : ByteArray) = bts (60 :: n) := by
  apply ByteArray.ext
  apply Array.ext'
  simp
theorem open_cat (h t : List UInt8) : (bts h ++ ⟨#[62]⟩ ++ bts (Tx.esc t) : ByteArray) = bts (h ++ ([62] ++ Tx.esc t)) := by
  apply ByteArray.ext
  apply Array.ext'
  simp
theorem shut_cat (h n : List UInt8) : (bts h ++ ⟨#[60, 47]⟩ ++ bts n ++ ⟨#[62]⟩ : ByteArray) = bts (h ++ closeT n) := by
  apply ByteArray.ext
  apply Array.ext'
  simp [closeT]
/-- What is ahead of a node's attributes. -/
def preA (x : Nd) (sp : List UInt8) : List Att := if x.2.2.2.1 = sp then [] else [(xmlnsL, x.2.2.2.1)]
def headK (x : Nd) (sp : List UInt8) (k : Nat) : List UInt8 := 60 :: (x.2.2.1 ++ attrsT (preA x sp ++ x.2.2.2.2.1.take k))
theorem attrsT_append (a b : List Att) : attrsT (a ++ b) = attrsT a ++ attrsT b := by unfold attrsT; rw [List.flatMap_append]
theorem headK_snoc {x : Nd} {sp : List UInt8} {k : Nat} {a : Att} (h : x.2.2.2.2.1[k]? = some a) : headK x sp (k + 1) = headK x sp k ++ attrT a.1 a.2 := by
  unfold headK
  rw [List.take_add_one, h, attrsT_append, attrsT_append, attrsT_append]
  simp [attrsT]
theorem headK_full (x : Nd) (sp : List UInt8) : headK x sp x.2.2.2.2.1.length = headT x sp := by
  unfold headK headT allA preA
  rw [List.take_length]
theorem headK_len (x : Nd) (sp : List UInt8) (k : Nat) : (headK x sp k).length ≤ 10 + x.2.2.1.length + 6 * x.2.2.2.1.length + ownA x.2.2.2.2.1 := by
  have h1 := attrsT_len (preA x sp ++ x.2.2.2.2.1.take k)
  have h2 := ownA_take x.2.2.2.2.1 k
  rw [ownA_append] at h1
  have h3 : ownA (preA x sp) ≤ 9 + 6 * x.2.2.2.1.length := by
    unfold preA
    split
    · exact Nat.zero_le _
    · unfold ownA
      simp [xmlnsL]
  unfold headK
  simp only [List.length_cons, List.length_append]
  omega
theorem headK_eq {x : Nd} {sp : List UInt8} (h : x.2.2.2.1 = sp) : headK x sp 0 = 60 :: x.2.2.1 := by
  unfold headK preA
  rw [if_pos h]
  simp [attrsT]
theorem headK_ne {x : Nd} {sp : List UInt8} (h : x.2.2.2.1 ≠ sp) : headK x sp 0 = (60 :: x.2.2.1) ++ attrT xmlnsL x.2.2.2.1 := by
  unfold headK preA
  rw [if_neg h]
  simp [attrsT]
theorem flat_get {x : List Nat} {g : Nat → List UInt8} {k : Nat} {z : Nat} (h : x[k]? = some z) : (x.take (k + 1)).flatMap g = (x.take k).flatMap g ++ g z := by
  rw [List.take_add_one, List.flatMap_append, h]
  simp
theorem rwrite_step {ns : List Nd} {f i : Nat} {sp : List UInt8} {x : Nd} (hx : ns[i]? = some x) : writeF ns (f + 1) i sp = if x.2.2.2.2.2 = [] ∧ kidsL ns (i : Int) = [] then headT x sp ++ [47, 62]
    else headT x sp ++ ([62] ++ (Tx.esc x.2.2.2.2.2 ++ ((kidsL ns (i : Int)).flatMap (fun k => writeF ns f k x.2.2.2.1) ++ closeT x.2.2.1))) := by rw [writeF, hx]
end Go.Proofs.YtbkfmbkamocllaaDoor
