import Derived.Test.YtbgaglcgennhiaaGreatDoorB45
import Derived.Deep.AppendLies
/- what is reached of it -/
namespace Go.Proofs.YtbgaglcgennhiaaGreatDoor
open Go.RowKit Go.Sort Tx Vc Ct
def OwnV {α : Type} (enc : α → List Value) (k : Nat) (t : TypeId) (B : Nat) (W : World) (v : Value) (l : List α) : Prop := W.ownsRow B t k v l.length (flatK2 enc l)
theorem flatK2_cat {α : Type} (enc : α → List Value) (a b : List α) : flatK2 enc (a ++ b) = flatK2 enc a ++ flatK2 enc b := by unfold flatK2; rw [List.flatMap_append]
theorem OwnV.nil {α : Type} {enc : α → List Value} {k : Nat} {t : TypeId} {B : Nat} {W : World} : OwnV enc k t B W (.slice none 0 0) ([] : List α) := ⟨by simp [flatK2], .inl ⟨rfl, rfl⟩⟩
theorem OwnV.rowB {α : Type} {enc : α → List Value} {k : Nat} {t : TypeId} {B : Nat} {W : World} {v : Value} {l : List α} (h : OwnV enc k t B W v l) (hk : ∀ x, (enc x).length = k) (h0 : 0 < l.length) : ∃ g cap, v = .slice (some ⟨g, 0, none⟩) l.length cap ∧ B ≤ g ∧ RowB enc k t W g l := by
  rcases h.2 with ⟨_, h1⟩ | ⟨g, cap, cur, rfl, hge, hh, hnc, _, hcs, htk⟩
  · omega
  · refine ⟨g, cap, rfl, hge, cur, hh, fun i p hp c u hu => ?_⟩
    have hcl : c < k := by have := (List.getElem?_eq_some_iff.1 hu).1; rw [hk] at this; exact this
    have hil : i < l.length := (List.getElem?_eq_some_iff.1 hp).1
    have e1 := flatK2_at hk l i c p hp hcl
    rw [hu] at e1
    have e2 : (cur.toList.take (l.length * k))[i * k + c]? = some u := by rw [htk]; exact e1
    have hlt : i * k + c < l.length * k := by
      have := Nat.mul_le_mul_right k (show i + 1 ≤ l.length from hil)
      rw [Nat.add_mul, Nat.one_mul] at this
      omega
    rw [List.getElem?_take, if_pos hlt, Array.getElem?_toList] at e2
    exact e2
theorem OwnV.row {α : Type} {enc : α → List Value} {k : Nat} {t : TypeId} {B : Nat} {W : World} {v : Value} {l : List α} (h : OwnV enc k t B W v l) (hk : ∀ x, (enc x).length = k) : RowV enc k W.heap.size W v l := by
  by_cases h0 : 0 < l.length
  · obtain ⟨g, cap, rfl, _, hr⟩ := h.rowB hk h0
    exact hr.row hr.lt _ cap rfl
  · obtain rfl : l = [] := List.length_eq_zero_iff.1 (by omega)
    rcases h.2 with ⟨rfl, _⟩ | ⟨g, cap, cur, rfl, _⟩
    · exact ⟨none, 0, rfl, fun h => absurd h (by simp)⟩
    · exact ⟨_, cap, rfl, fun h => absurd h (by simp)⟩
theorem OwnV.slice {α : Type} {enc : α → List Value} {k : Nat} {t : TypeId} {B : Nat} {W : World} {v : Value} {l : List α} (h : OwnV enc k t B W v l) : ∃ A cap, v = .slice A l.length cap := by
  rcases h.2 with ⟨rfl, h0⟩ | ⟨g, cap, cur, rfl, _⟩
  · rw [h0]; exact ⟨none, 0, rfl⟩
  · exact ⟨_, cap, rfl⟩
theorem OwnV.same {α : Type} {enc : α → List Value} {k : Nat} {t : TypeId} {B : Nat} {W W' : World} {v : Value} {l : List α} (h : OwnV enc k t B W v l) (hb : ∀ g, v.ownBlock = some g → W'.heap[g]? = W.heap[g]?) : OwnV enc k t B W' v l := by
  refine ⟨h.1, ?_⟩
  rcases h.2 with h1 | ⟨g, cap, cur, rfl, hge, hh, h3⟩
  · exact .inl h1
  · exact .inr ⟨g, cap, cur, rfl, hge, by rw [hb g rfl]; exact hh, h3⟩
theorem OwnV.below {α : Type} {enc : α → List Value} {k : Nat} {t : TypeId} {B : Nat} {W W' : World} {v : Value} {l : List α} (h : OwnV enc k t B W v l) (hb : Below W.heap.size W W') : OwnV enc k t B W' v l :=
  h.same fun g hg => hb.block g (World.ownsRow.lt h g hg).2
theorem stepI_row {ops : Array Oper} {o : Oper} {a : Act} {Q : Exit → Act → World → Prop} {KK : Act → World → Prop} {E : Prop} (hgd : o.guard = none) (s x : Operand) (ho : o.op = .call { callee := .builtin .append, args := #[s, x], argTypes := #[25, 25] })
    (B : Nat) (v : Value) (ad : Addr) (xs : List (Itm × Slc)) (y : Itm × Slc) (w0 W : World) (hW : Below B w0 W) (hB : B ≤ w0.heap.size) (hs : a.eval s = v) (hown : OwnV encIS 6 53 B W v xs) (hx : a.eval x = .slice (some ad) 1 1)
    (hy : ∀ j u, (encIS y)[j]? = some u → W.cell? (ad.add j) = some u) (hn : xs.length ≤ 1000000000)
    (h : ∀ v' w', OwnV encIS 6 53 B w' v' (xs ++ [y]) → Below B w0 w' → (∀ q, q < W.heap.size → some q ≠ v.ownBlock → w'.heap[q]? = W.heap[q]?) → KK (a.put o.dst v') w') : if Region.wanted o (yielded ops a.tmps) = true then Oper.wp Tryz.prog o a W KK Q else E := by
  rw [if_pos (by simp [Region.wanted, hgd])]
  obtain ⟨i0, hi, hz0, hz1, hz2⟩ := info_parts infoIS
  have hown' : W.ownsRow B 53 6 v xs.length (flatK2 encIS xs) := hown
  have hsW : B ≤ W.heap.size := Nat.le_trans hB hW.size
  have e1 : flatK2 encIS [y] = encIS y := by simp [flatK2]
  refine wp_append_own _ s x 25 ho B 53 i0 _ 6 72 Tryz.underlying25 hi hz0 hz1 hz2 rfl (by decide) v xs.length (flatK2 encIS xs) hs hown' ad 1 1 (encIS y) hx rfl ?_ (oneIS y) ?_ (by omega) hsW ?_
  · intro j u hj
    exact hy j u hj
  · unfold maxLen; omega
  · intro v' w' h1 hg _
    refine h v' w' ?_ (hW.grown hg hsW (fun j hj => (World.ownsRow.lt hown' j hj).1)) (fun q hq hne => hg.block q hq hne)
    unfold OwnV
    rw [flatK2_cat, e1, List.length_append]
    exact h1
theorem stepU_row {ops : Array Oper} {o : Oper} {a : Act} {Q : Exit → Act → World → Prop} {KK : Act → World → Prop} {E : Prop} (hgd : o.guard = none) (s x : Operand) (ho : o.op = .call { callee := .builtin .append, args := #[s, x], argTypes := #[45, 45] })
    (B : Nat) (v : Value) (ad : Addr) (xs : List (Usr)) (y : Usr) (w0 W : World) (hW : Below B w0 W) (hB : B ≤ w0.heap.size) (hs : a.eval s = v) (hown : OwnV encU 4 28 B W v xs) (hx : a.eval x = .slice (some ad) 1 1)
    (hy : ∀ j u, (encU y)[j]? = some u → W.cell? (ad.add j) = some u) (hn : xs.length ≤ 1000000000)
    (h : ∀ v' w', OwnV encU 4 28 B w' v' (xs ++ [y]) → Below B w0 w' → (∀ q, q < W.heap.size → some q ≠ v.ownBlock → w'.heap[q]? = W.heap[q]?) → KK (a.put o.dst v') w') : if Region.wanted o (yielded ops a.tmps) = true then Oper.wp Tryz.prog o a W KK Q else E := by
  rw [if_pos (by simp [Region.wanted, hgd])]
  obtain ⟨i0, hi, hz0, hz1, hz2⟩ := info_parts infoUS
  have hown' : W.ownsRow B 28 4 v xs.length (flatK2 encU xs) := hown
  have hsW : B ≤ W.heap.size := Nat.le_trans hB hW.size
  have e1 : flatK2 encU [y] = encU y := by simp [flatK2]
  refine wp_append_own _ s x 45 ho B 28 i0 _ 4 80 Tryz.underlying45 hi hz0 hz1 hz2 rfl (by decide) v xs.length (flatK2 encU xs) hs hown' ad 1 1 (encU y) hx rfl ?_ (oneUS y) ?_ (by omega) hsW ?_
  · intro j u hj
    exact hy j u hj
  · unfold maxLen; omega
  · intro v' w' h1 hg _
    refine h v' w' ?_ (hW.grown hg hsW (fun j hj => (World.ownsRow.lt hown' j hj).1)) (fun q hq hne => hg.block q hq hne)
    unfold OwnV
    rw [flatK2_cat, e1, List.length_append]
    exact h1
theorem stepH_row {ops : Array Oper} {o : Oper} {a : Act} {Q : Exit → Act → World → Prop} {KK : Act → World → Prop} {E : Prop} (hgd : o.guard = none) (s x : Operand) (ho : o.op = .call { callee := .builtin .append, args := #[s, x], argTypes := #[22, 22] })
    (B : Nat) (v : Value) (ad : Addr) (xs : List (Hst)) (y : Hst) (w0 W : World) (hW : Below B w0 W) (hB : B ≤ w0.heap.size) (hs : a.eval s = v) (hown : OwnV encH 2 47 B W v xs) (hx : a.eval x = .slice (some ad) 1 1)
    (hy : ∀ j u, (encH y)[j]? = some u → W.cell? (ad.add j) = some u) (hn : xs.length ≤ 1000000000)
    (h : ∀ v' w', OwnV encH 2 47 B w' v' (xs ++ [y]) → Below B w0 w' → (∀ q, q < W.heap.size → some q ≠ v.ownBlock → w'.heap[q]? = W.heap[q]?) → KK (a.put o.dst v') w') : if Region.wanted o (yielded ops a.tmps) = true then Oper.wp Tryz.prog o a W KK Q else E := by
  rw [if_pos (by simp [Region.wanted, hgd])]
  obtain ⟨i0, hi, hz0, hz1, hz2⟩ := info_parts infoHS
  have hown' : W.ownsRow B 47 2 v xs.length (flatK2 encH xs) := hown
  have hsW : B ≤ W.heap.size := Nat.le_trans hB hW.size
  have e1 : flatK2 encH [y] = encH y := by simp [flatK2]
  refine wp_append_own _ s x 22 ho B 47 i0 _ 2 40 Tryz.underlying22 hi hz0 hz1 hz2 rfl (by decide) v xs.length (flatK2 encH xs) hs hown' ad 1 1 (encH y) hx rfl ?_ (oneHS y) ?_ (by omega) hsW ?_
  · intro j u hj
    exact hy j u hj
  · unfold maxLen; omega
  · intro v' w' h1 hg _
    refine h v' w' ?_ (hW.grown hg hsW (fun j hj => (World.ownsRow.lt hown' j hj).1)) (fun q hq hne => hg.block q hq hne)
    unfold OwnV
    rw [flatK2_cat, e1, List.length_append]
    exact h1
theorem readT_nil (W : World) (B cap : Nat) : ReadT B W (sl (none, 0, cap)) (sts []) := ReadT.nil _ _ _
/-- items without groups that lie in a block -/
def NoG (l : List (Itm × Slc)) : Prop := ∀ p ∈ l, p.1.groups = [] ∧ p.2 = (none, 0, 0)
theorem readI_bare {W : World} {v : Value} {l : List (Itm × Slc)} (h : RowV encIS 6 W.heap.size W v l) (hg : NoG l) : ReadI W.heap.size W v l :=
  ReadI.of_row h fun p hp => by
    obtain ⟨h1, h2⟩ := hg p hp
    rw [h1, h2]
    exact readT_nil W _ 0
theorem readT_row {W : World} {v : Value} {l : List (List UInt8)} (h : RowV encT 1 W.heap.size W v l) : ReadT W.heap.size W v (sts l) := by
  have hll : (sts l).length = l.length := List.length_map _
  obtain ⟨A, cap, rfl, hc⟩ := h
  refine ⟨A, cap, by rw [hll], fun h0 => ?_⟩
  obtain ⟨b, off, rfl, hb, hcc⟩ := hc (by omega)
  refine ⟨_, rfl, hb, fun i q hq => ?_⟩
  obtain ⟨y, hy, rfl⟩ := sts_of hq
  have := hcc i y hy 0 _ rfl
  rw [Nat.mul_one, Nat.add_zero] at this
  rw [add_at]
  exact this
theorem rowB_bk {α : Type} {enc : α → List Value} {k : Nat} {t : TypeId} {W : World} {g : Nat} {cs : Array Value} {l : List α} (h : Bk W g t cs) (hc : cs.toList = flatK2 enc l) (hk : ∀ x, (enc x).length = k) : RowB enc k t W g l :=
  ⟨cs, h, fun i p hp c u hu => by
    have hcl : c < k := by have := (List.getElem?_eq_some_iff.1 hu).1; rw [hk] at this; exact this
    have e1 := flatK2_at hk l i c p hp hcl
    rw [hu, ← hc, Array.getElem?_toList] at e1
    exact e1⟩
end Go.Proofs.YtbgaglcgennhiaaGreatDoor
