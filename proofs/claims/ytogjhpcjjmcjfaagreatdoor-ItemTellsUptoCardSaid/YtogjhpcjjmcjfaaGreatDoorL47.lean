import Derived.Test.YtogjhpcjjmcjfaaGreatDoorL42
import Derived.Test.YtogjhpcjjmcjfaaGreatDoorL36
import Derived.Test.YtogjhpcjjmcjfaaGreatDoorL46
/- what is reached of it -/
namespace Go.Proofs.YtogjhpcjjmcjfaaGreatDoor
open Go.RowKit Go.Sort Sy Vc Ct Tx
theorem heavy_each {l : List (Itm × Slc)} {p : Itm × Slc} (h : p ∈ l) : heavyI p.1 ≤ heavyIs l := by
  unfold heavyIs
  induction l with
  | nil => cases h
  | cons a l ih =>
    rw [List.map_cons, List.sum_cons]
    rcases List.mem_cons.1 h with rfl | h
    · omega
    · have := ih h; omega
theorem small_parts {l : List (Itm × Slc)} (h : smallIs l = true) : l.length ≤ 150 ∧ ∀ p ∈ l, p.1.jid.length ≤ 20000 ∧ p.1.name.length ≤ 20000 ∧ p.1.groups.length ≤ 20000 ∧ ∀ g ∈ p.1.groups, g.length ≤ 20000 := by
  unfold smallIs at h
  obtain ⟨h1, h2⟩ := Bool.and_eq_true_iff.1 h
  refine ⟨of_decide_eq_true h1, fun p hp => ?_⟩
  have h3 := heavy_each hp
  have h4 := of_decide_eq_true h2
  exact heavy_parts (by omega)
theorem ReadI.upon {w W : World} {v : Value} {l : List (Itm × Slc)} (h : ReadI w.heap.size w v l) (hb : Below w.heap.size w W) : ReadI W.heap.size W v l := by
  obtain ⟨A, cap, hv, hc, hT⟩ := h
  refine ⟨A, cap, hv, fun h0 => ?_, fun p hp => (hT p hp).upon hb⟩
  obtain ⟨b, off, ha, hbb, hcc⟩ := hc h0
  exact ⟨b, off, ha, Nat.lt_of_lt_of_le hbb hb.size, fun i p hp c u hu => by rw [hb.cell (p := ⟨b, off + i * 6 + c, none⟩) hbb]; exact hcc i p hp c u hu⟩
/-- an item's address, where items stand -/
theorem ReadI.jid {w : World} {v : Value} {l : List (Itm × Slc)} (h : ReadI w.heap.size w v l) (h0 : 0 < l.length) : ∃ b off cap, v = .slice (some ⟨b, off, none⟩) l.length cap ∧ ∀ W, Below w.heap.size w W → ∀ i p, l[i]? = some p → W.cell? ⟨b, off + i * 6, none⟩ = some (.string (bts p.1.jid)) := by
  obtain ⟨A, cap, rfl, hc, _⟩ := h
  obtain ⟨b, off, rfl, hb, hcc⟩ := hc h0
  exact ⟨b, off, cap, rfl, fun W hW i p hp => by rw [hW.cell (p := ⟨b, off + i * 6, none⟩) hb]; exact hcc i p hp 0 _ rfl⟩
end Go.Proofs.YtogjhpcjjmcjfaaGreatDoor
