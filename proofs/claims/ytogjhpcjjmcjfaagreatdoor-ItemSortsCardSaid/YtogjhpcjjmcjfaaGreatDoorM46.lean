import Derived.Test.YtogjhpcjjmcjfaaGreatDoorM45
import Derived.Test.YtogjhpcjjmcjfaaGreatDoorM41
import Derived.Test.YtogjhpcjjmcjfaaGreatDoorM44
import Derived.Test.YtogjhpcjjmcjfaaGreatDoorM43
/- what is reached of it -/
namespace Go.Proofs.YtogjhpcjjmcjfaaGreatDoor
open Go.RowKit Go.Sort Sy Vc Ct Tx
theorem ReadI.upon {w W : World} {v : Value} {l : List (Itm × Slc)} (h : ReadI w.heap.size w v l) (hb : Below w.heap.size w W) : ReadI W.heap.size W v l := by
  obtain ⟨A, cap, hv, hc, hT⟩ := h
  refine ⟨A, cap, hv, fun h0 => ?_, fun p hp => (hT p hp).upon hb⟩
  obtain ⟨b, off, ha, hbb, hcc⟩ := hc h0
  exact ⟨b, off, ha, Nat.lt_of_lt_of_le hbb hb.size, fun i p hp c u hu => by rw [hb.cell (p := ⟨b, off + i * 6 + c, none⟩) hbb]; exact hcc i p hp c u hu⟩
/-- an item's address, where items stand -/
theorem ReadI.jid {w : World} {v : Value} {l : List (Itm × Slc)} (h : ReadI w.heap.size w v l) (h0 : 0 < l.length) : ∃ b off cap, v = .slice (some ⟨b, off, none⟩) l.length cap ∧ ∀ W, Below w.heap.size w W → ∀ i p, l[i]? = some p → W.cell? ⟨b, off + i * 6, none⟩ = some (.string (bts p.1.jid)) := by
  obtain ⟨A, cap, rfl, hc, _⟩ := h
  obtain ⟨b, off, rfl, hb, hcc⟩ := hc h0
  exact ⟨b, off, cap, rfl, fun W hW i p hp => by rw [hW.cell (p := ⟨b, off + i * 6, none⟩) hb]; exact hcc i p hp 0 _ rfl⟩
theorem find_mem {l : List (Itm × Slc)} {k : Nat} {p : Itm × Slc} (h : l[k]? = some p) : ∃ q, l.find? (fun x => decide (x.1.jid = p.1.jid)) = some q := by
  cases hf : l.find? (fun x => decide (x.1.jid = p.1.jid)) with
  | some q => exact ⟨q, rfl⟩
  | none =>
    have := List.find?_eq_none.1 hf p (List.mem_of_getElem? h)
    simp at this
theorem find_both {l l2 : List (Itm × Slc)} (hm : l2.map (·.1) = sortS ltJ (l.map (·.1))) {j : List UInt8} {q : Itm × Slc} (h : l.find? (fun x => decide (x.1.jid = j)) = some q) : ∃ q2, l2.find? (fun x => decide (x.1.jid = j)) = some q2 ∧ q2.1 = q.1 := by
  have e1 : (l.map (·.1)).find? (fun x => decide (x.jid = j)) = some q.1 := by
    rw [List.find?_map]
    have : l.find? ((fun x : Itm => decide (x.jid = j)) ∘ fun x => x.1) = some q := h
    rw [this]; rfl
  have e2 : (l2.map (·.1)).find? (fun x => decide (x.jid = j)) = some q.1 := by rw [hm, find_jid]; exact e1
  rw [List.find?_map] at e2
  obtain ⟨q2, h1, h2⟩ := Option.map_eq_some_iff.1 e2
  exact ⟨q2, h1, h2⟩
theorem sorted_pair {l l2 : List (Itm × Slc)} (hm : l2.map (·.1) = sortS ltJ (l.map (·.1))) {i j : Nat} {p q : Itm × Slc} (hij : j < i) (hp : l2[i]? = some p) (hq : l2[j]? = some q) : Jd.lessL p.1.jid q.1.jid = false := by
  have hu : Up ltJ (l2.map (·.1)) := by rw [hm]; exact sortS_up ltJ_weak _
  have h1 : (l2.map (·.1))[i]? = some p.1 := by rw [List.getElem?_map, hp]; rfl
  have h2 : (l2.map (·.1))[j]? = some q.1 := by rw [List.getElem?_map, hq]; rfl
  obtain ⟨hi, e1⟩ := List.getElem?_eq_some_iff.1 h1
  obtain ⟨hj, e2⟩ := List.getElem?_eq_some_iff.1 h2
  have := List.pairwise_iff_getElem.1 hu j i hj hi hij
  rw [e1, e2] at this
  exact this
end Go.Proofs.YtogjhpcjjmcjfaaGreatDoor
