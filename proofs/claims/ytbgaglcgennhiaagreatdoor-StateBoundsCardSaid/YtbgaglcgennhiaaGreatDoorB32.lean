import Derived.Test.YtbgaglcgennhiaaGreatDoorB24
import Derived.Test.YtbgaglcgennhiaaGreatDoorB17
import Derived.Test.YtbgaglcgennhiaaGreatDoorB05
import Derived.Test.YtbgaglcgennhiaaGreatDoorShelf
/- what is reached of it -/
namespace Go.Proofs.YtbgaglcgennhiaaGreatDoor
open Go.RowKit Tx
/-- how the package's loop stands: out behind, t ahead -/
def PGoes (l t out : List UInt8) : Prop := plain l = (plain t).map (out ++ ·)
theorem PGoes.start (l : List UInt8) : PGoes l l [] := by unfold PGoes; cases plain l <;> rfl
theorem PGoes.stop {l t out : List UInt8} (h : PGoes l t out) (hn : ∀ c ∈ t, c ≠ 92) : plain l = some (out ++ t) := by
  have := plain_run t [] hn
  rw [List.append_nil, plain_nil] at this
  unfold PGoes at h
  rw [h, this]
  simp
theorem PGoes.last {l t out p : List UInt8} (h : PGoes l t out) (ht : t = p ++ [92]) (hn : ∀ c ∈ p, c ≠ 92) : plain l = none := by
  unfold PGoes at h
  rw [h, ht, plain_run p _ hn, Tx.plain_end]
  rfl
theorem PGoes.bad {l t out p u : List UInt8} {d : UInt8} (h : PGoes l t out) (ht : t = p ++ 92 :: d :: u) (hn : ∀ c ∈ p, c ≠ 92) (hu : unb d = none) : plain l = none := by
  unfold PGoes at h
  rw [h, ht, plain_run p _ hn, plain_bad u hu]
  rfl
theorem PGoes.step {l t out p u : List UInt8} {d x : UInt8} (h : PGoes l t out) (ht : t = p ++ 92 :: d :: u) (hn : ∀ c ∈ p, c ≠ 92) (hu : unb d = some x) : PGoes l u (out ++ p ++ [x]) := by
  unfold PGoes at h ⊢
  rw [h, ht, plain_run p _ hn, plain_esc u hu]
  cases plain u <;> simp
end Go.Proofs.YtbgaglcgennhiaaGreatDoor
