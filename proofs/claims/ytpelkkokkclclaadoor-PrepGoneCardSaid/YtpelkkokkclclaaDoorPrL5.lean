/-
  PrepGone.
-/
import Derived.Test.YtpelkkokkclclaaDoorPrW
import Derived.Test.YtpelkkokkclclaaDoorUint
import Derived.Deep.QuietTactic
import Derived.BigQuiet
namespace Go.Proofs.YtpelkkokkclclaaDoor
open Go.RowKit Rg Tx

/-! ### plain lists -/
def alpha : List Nat := [97, 66, 99, 68, 101, 88, 121, 90, 57, 45]
def goneC : List Nat := [173, 847, 6150, 8203, 8205, 8288, 65024, 65279]
def lower (c : Nat) : Nat := if 65 ≤ c ∧ c ≤ 90 then c + 32 else c
def InA (l : List Nat) : Prop := ∀ c ∈ l, c ∈ alpha
/-- Signs of one byte, written. -/
def byt (l : List Nat) : List UInt8 := l.map UInt8.ofNat
theorem byt_snoc (l : List Nat) (c : Nat) : byt (l ++ [c]) = byt l ++ [UInt8.ofNat c] := by simp [byt]
theorem alpha_all : ∀ c ∈ alpha, 32 ≤ c ∧ c < 128 ∧ Pr.one true c = [lower c] ∧ Pr.one false c = [c] ∧ Pr.wrong 1 (lower c) = false ∧ Pr.wrong 2 (lower c) = false ∧ Pr.wrong 3 c = false ∧ Pr.rl (lower c) = false ∧ Pr.rl c = false ∧ lower c < 128 := by decide
theorem goneC_all : ∀ g ∈ goneC, Pr.gone g = true ∧ 32 ≤ g ∧ g < 65534 ∧ (g < 55296 ∨ 57343 < g) := by decide
theorem InA.low {l : List Nat} (h : InA l) : ∀ c ∈ l, c < 128 := fun c hc => (alpha_all c (h c hc)).2.1
theorem flat_byt : ∀ {l : List Nat}, (∀ c ∈ l, c < 128) → flat l = byt l
  | [], _ => by rw [flat_nil]; rfl
  | c :: l, h => by
    rw [flat_cons, enc_low (h c (by simp)), flat_byt (fun d hd => h d (by simp [hd]))]
    rfl
theorem mapL_append (all : Bool) (a b : List Nat) : Pr.mapL all (a ++ b) = Pr.mapL all a ++ Pr.mapL all b := by simp [Pr.mapL]
theorem mapL_true : ∀ {l : List Nat}, InA l → Pr.mapL true l = l.map lower
  | [], _ => rfl
  | c :: l, h => by
    have ih := mapL_true (l := l) (fun d hd => h d (by simp [hd]))
    have h1 := (alpha_all c (h c (by simp))).2.2.1
    unfold Pr.mapL at ih ⊢
    rw [List.flatMap_cons, h1, ih]
    rfl
theorem mapL_false : ∀ {l : List Nat}, InA l → Pr.mapL false l = l
  | [], _ => rfl
  | c :: l, h => by
    have ih := mapL_false (l := l) (fun d hd => h d (by simp [hd]))
    have h1 := (alpha_all c (h c (by simp))).2.2.2.1
    unfold Pr.mapL at ih ⊢
    rw [List.flatMap_cons, h1, ih]
    rfl
theorem mapL_gone {all : Bool} {g : Nat} (h : Pr.gone g = true) : Pr.mapL all [g] = [] := by
  unfold Pr.mapL Pr.one
  simp [h]
theorem InA.take {l : List Nat} (h : InA l) (k : Nat) : InA (l.take k) := fun c hc => h c (List.mem_of_mem_take hc)
theorem InA.drop {l : List Nat} (h : InA l) (k : Nat) : InA (l.drop k) := fun c hc => h c (List.mem_of_mem_drop hc)
theorem InA.snoc {l : List Nat} {c : Nat} (h : InA l) (hc : c ∈ alpha) : InA (l ++ [c]) := fun d hd => (List.mem_append.1 hd).elim (h d) (fun h2 => by rw [List.mem_singleton.1 h2]; exact hc)
/-- the text, with one that is gone in it -/
theorem gone_bytes {P : List Nat} (h : InA P) (a g : Nat) : byt (P.take a) ++ enc g ++ byt (P.drop a) = flat (P.take a ++ [g] ++ P.drop a) := by
  rw [flat_append, flat_append, flat_one, flat_byt (h.take a).low, flat_byt (h.drop a).low]
theorem gone_ch {P : List Nat} (h : InA P) (a : Nat) {g : Nat} (hg : g ∈ goneC) : ch (flat (P.take a ++ [g] ++ P.drop a)) = some (P.take a ++ [g] ++ P.drop a) := by
  refine Pr.ch_fine fun c hc => ?_
  have hl : ∀ c ∈ P, Pr.Fine c := fun c hc => fine_low (alpha_all c (h c hc)).1 (alpha_all c (h c hc)).2.1
  rcases List.mem_append.1 hc with hc | hc
  · rcases List.mem_append.1 hc with hc | hc
    · exact hl c (List.mem_of_mem_take hc)
    · rw [List.mem_singleton.1 hc]
      obtain ⟨_, h2, h3, h4⟩ := goneC_all g hg
      refine ⟨?_, Pr.okc_of h2 h3⟩
      unfold sane
      omega
  · exact hl c (List.mem_of_mem_drop hc)
theorem gone_low {P : List Nat} (h : InA P) (a : Nat) {g : Nat} (hg : g ∈ goneC) {k : Nat} (hk : k = 1 ∨ k = 2) : Pr.prepL k (byt (P.take a) ++ enc g ++ byt (P.drop a)) = (byt (P.map lower), 0) := by
  have hm : Pr.mapL (k != 3) (P.take a ++ [g] ++ P.drop a) = P.map lower := by
    rw [show (k != 3) = true by rcases hk with rfl | rfl <;> rfl, mapL_append, mapL_append, mapL_gone (goneC_all g hg).1, List.append_nil, mapL_true (h.take a), mapL_true (h.drop a), ← List.map_append, List.take_append_drop]
  have e : flat (P.map lower) = byt (P.map lower) := flat_byt fun c hc => by
    obtain ⟨d, hd, rfl⟩ := List.mem_map.1 hc
    exact (alpha_all d (h d hd)).2.2.2.2.2.2.2.2.2
  rw [gone_bytes h, ← e, ← hm]
  refine Pr.keeps (gone_ch h a hg) ?_ ?_
  · rw [hm, List.any_eq_false]
    intro c hc
    obtain ⟨d, hd, rfl⟩ := List.mem_map.1 hc
    have := alpha_all d (h d hd)
    rcases hk with rfl | rfl
    · simp [this.2.2.2.2.1]
    · simp [this.2.2.2.2.2.1]
  · rw [hm]
    refine wayB_none ?_
    rw [List.any_eq_false]
    intro c hc
    obtain ⟨d, hd, rfl⟩ := List.mem_map.1 hc
    simp [(alpha_all d (h d hd)).2.2.2.2.2.2.2.1]
theorem gone_same {P : List Nat} (h : InA P) (a : Nat) {g : Nat} (hg : g ∈ goneC) : Pr.prepL 3 (byt (P.take a) ++ enc g ++ byt (P.drop a)) = (byt P, 0) := by
  have hm : Pr.mapL (3 != 3) (P.take a ++ [g] ++ P.drop a) = P := by
    rw [show ((3 : Nat) != 3) = false from rfl, mapL_append, mapL_append, mapL_gone (goneC_all g hg).1, List.append_nil, mapL_false (h.take a), mapL_false (h.drop a), List.take_append_drop]
  have e : flat P = byt P := flat_byt h.low
  rw [gone_bytes h, ← e]
  have := Pr.keeps (k := 3) (gone_ch h a hg) (by
    rw [hm, List.any_eq_false]
    intro c hc
    simp [(alpha_all c (h c hc)).2.2.2.2.2.2.1]) (by
    rw [hm]
    refine wayB_none ?_
    rw [List.any_eq_false]
    intro c hc
    simp [(alpha_all c (h c hc)).2.2.2.2.2.2.2.2.1])
  rw [hm] at this
  exact this
theorem eight_get {r : Nat} (h : r < 8) : (#[.int .i32 173, .int .i32 847, .int .i32 6150, .int .i32 8203, .int .i32 8205, .int .i32 8288, .int .i32 65024, .int .i32 65279] : Array Value)[r]? = some (.int .i32 (goneC.getD r 0 : Nat)) := by
  rcases (show r = 0 ∨ r = 1 ∨ r = 2 ∨ r = 3 ∨ r = 4 ∨ r = 5 ∨ r = 6 ∨ r = 7 by omega) with rfl | rfl | rfl | rfl | rfl | rfl | rfl | rfl <;> simp [goneC]
theorem eight_mem {r : Nat} (h : r < 8) : goneC.getD r 0 ∈ goneC := by
  rw [List.getD, List.getElem?_eq_getElem (by exact h)]
  exact List.getElem_mem _
end Go.Proofs.YtpelkkokkclclaaDoor
