/-
  ELEMENTS THAT GROW: read, appended to, told that there is one within, given a text.
-/
import Derived.Test.YtbkfmbkamocllaaDoorTrM
namespace Go.Proofs.YtbkfmbkamocllaaDoor
open Go.RowKit Tk Tr

/-- All blocks of a type stay, from B on. -/
def KeepT (t : TypeId) (w w' : World) : Prop := ∀ k cs, Bk w k t cs → Bk w' k t cs
theorem KeepT.below {t : TypeId} {w w' : World} (h : Below w.heap.size w w') : KeepT t w w' := fun _ _ hg => (h.block _ hg.lt).trans hg
theorem KeepT.set {t u : TypeId} {w : World} {g : Nat} {cs : Array Value} (h : Bk w g t cs) (ht : t ≠ u) (o : Nat) (x : Value) : KeepT u w (w.setCell ⟨g, o, none⟩ x) := fun _ _ hk =>
  (Below.heap_setCell _ _ _ _ (Bk.type_ne hk h (fun e => ht e.symm))).trans hk
theorem KeepT.grown {t u : TypeId} {w w' : World} {row : Option Nat} (hg : w.grownBy w' row) (hrow : ∀ g, row = some g → ∃ cs, Bk w g t cs) (ht : t ≠ u) : KeepT u w w' := fun k cs hk => by
  refine (hg.block k hk.lt (fun e => ?_)).trans hk
  obtain ⟨ds, hd⟩ := hrow k e.symm
  exact Bk.type_ne hk hd (fun e => ht e.symm) rfl
theorem KeepT.trans {t : TypeId} {a b c : World} (h : KeepT t a b) (k : KeepT t b c) : KeepT t a c := fun g cs hg => k g cs (h g cs hg)
theorem OwnT.keep {B : Nat} {w w' : World} {v : Value} {l : List (List UInt8)} (h : OwnT B w v l) (hk : KeepT 9 w w') : OwnT B w' v l :=
  h.of (fun g hg => by obtain ⟨_, _, cs, hb⟩ := h.at hg; exact (hk g cs hb).trans (Eq.symm hb))
theorem row_block {B : Nat} {w : World} {v : Value} {t : TypeId} {s n : Nat} {xs : List Value} (h : w.ownsRow B t s v n xs) : ∀ g, v.ownBlock = some g → ∃ cs, Bk w g t cs := fun g hg => by
  rcases h.2 with ⟨rfl, h0⟩ | ⟨g', cap, cur, rfl, hb, hh, _⟩
  · cases hg
  · injection hg with hg
    subst hg
    exact ⟨cur, hh⟩
theorem row_keep {B : Nat} {w w' : World} {v : Value} {t : TypeId} {s n : Nat} {xs : List Value} (h : w.ownsRow B t s v n xs) (hk : KeepT t w w') : w'.ownsRow B t s v n xs := by
  refine ⟨h.1, h.2.imp id fun ⟨g, cap, cur, h1, h2, h3, h4⟩ => ⟨g, cap, cur, h1, h2, hk g cur h3, h4⟩⟩
/-- Eight cells of an element. -/
def AtE (w : World) (g o : Nat) (x : Nd) (av tv : Value) (f : Bool) : Prop := w.cell? ⟨g, o, none⟩ = some (.int .i64 x.1) ∧ w.cell? ⟨g, o + 1, none⟩ = some (.int .i64 x.2.1) ∧ w.cell? ⟨g, o + 2, none⟩ = some (.string (bts x.2.2.1)) ∧
  w.cell? ⟨g, o + 3, none⟩ = some (.string (bts x.2.2.2.1)) ∧ w.cell? ⟨g, o + 4, none⟩ = some av ∧ w.cell? ⟨g, o + 5, none⟩ = some (.string ⟨#[]⟩) ∧ w.cell? ⟨g, o + 6, none⟩ = some tv ∧ w.cell? ⟨g, o + 7, none⟩ = some (.bool f)
end Go.Proofs.YtbkfmbkamocllaaDoor
