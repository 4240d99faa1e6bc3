import Derived.Deep.RegionHeld
/- what is reached of it -/
namespace Go.Proofs.YtbgaglcgennhiaaGreatDoor
open Go
section
variable {P : Program} {ops : Array Oper} {Q : Exit → Act → World → Prop} {md : Region.Mode} {S : World → Prop} {V : Nat}
/-- In whatever order what is left comes up, the post is met; and till V comes up, S holds behind each. -/
def Any (P : Program) (md : Region.Mode) (ops : Array Oper) (Q : Exit → Act → World → Prop) (S : World → Prop) (V : Nat) : Nat → Array Bool → Act → World → Prop
  | 0, l, a, w => Region.ready md ops l = [] ∧ Q .normal a w
  | k + 1, l, a, w => (Region.ready md ops l = [] → Q .normal a w) ∧
    ∀ i ∈ Region.ready md ops l, wpOp P ops Q i (fun a' w' => (i ≠ V → l.getD V true = false → S w') ∧ Any P md ops Q S V k (l.setIfInBounds i true) a' w') a w
theorem Any.any : ∀ (k : Nat) (l : Array Bool) (a : Act) (w : World), Any P md ops Q S V k l a w → wpAny P md ops Q k l a w
  | 0, _, _, _, h => h
  | k + 1, _, _, _, h => ⟨h.1, fun i hi => wpOp_mono (fun _ _ h' => Any.any k _ _ _ h'.2) (h.2 i hi)⟩
theorem getD_no {l : Array Bool} {x : Nat} (h0 : l.getD x true = false) (h1 : l.getD x false = true) : False := by
  rcases Nat.lt_or_ge x l.size with h | h
  · simp [h] at h0 h1
    rw [h0] at h1
    cases h1
  · simp [Array.getElem?_eq_none h] at h1
/-- The operations W wait for number i, straight or by one of W. -/
def waitsOn (md : Region.Mode) (ops : Array Oper) (i : Nat) (W : List Nat) : Bool := W.all fun j => j != i && ((ops[j]?).map fun o => o.after.any fun e => Region.binds md e && (e.on == i || W.contains e.on)).getD true
/-- A load (or what else leaves the world as it is) is taken first: it yields v in every world that meets S', which S gives as long as V, one of those that wait for it, has not come up. -/
theorem Any.first {S' : World → Prop} {i : Nat} {oi : Oper} {v : Value} (W : List Nat) (hi : ops[i]? = some oi) (hsel : ∀ (j : Nat) (o : Oper) cs b, ops[j]? = some o → o.op ≠ .select cs b)
    (hQ : ∀ c a w, Q (.panic c) (a.put oi.dst v) w → Q (.panic c) a w) (hW : waitsOn md ops i W = true) (hVi : V ≠ i)
    (hS' : ∀ (l : Array Bool) (w : World), (∀ j ∈ W, l.getD j true = false) → (l.getD V true = false → S w) → S' w) :
    ∀ (k : Nat) (l : Array Bool) (a : Act) (w : World),
      (∀ j oj, ops[j]? = some oj → j ≠ i → l.getD j true = false → (∀ e ∈ oj.after, Region.binds md e = true → e.on ≠ i) → oi.apart ops oj = true) →
      i ∈ Region.ready md ops l → (∀ j ∈ W, l.getD j true = false) → YieldsIf P ops S' oi v a → (l.getD V true = false → S w) →
      Any P md ops Q S V k (l.setIfInBounds i true) (a.put oi.dst v) w → Any P md ops Q S V (k + 1) l a w := by
  intro k
  induction k with
  | zero =>
    intro l a w _ hr hl hy hS H
    refine ⟨fun h => (by rw [h] at hr; cases hr), fun j hj => ?_⟩
    by_cases hji : j = i
    · subst hji
      exact hy.wpOp hi (hS' l w hl hS) ⟨fun _ hv => hS hv, H⟩
    · have := ready_mono hj hji
      rw [H.1] at this
      cases this
  | succ k ih =>
    intro l a w hfree hr hl hy hS H
    refine ⟨fun h => (by rw [h] at hr; cases hr), fun j hj => ?_⟩
    by_cases hji : j = i
    · subst hji
      exact hy.wpOp hi (hS' l w hl hS) ⟨fun _ hv => hS hv, H⟩
    · obtain ⟨hjun, oj, hoj, hall⟩ := mem_ready.1 hj
      have hir := (mem_ready.1 hr).1
      have hnot : ∀ e ∈ oj.after, Region.binds md e = true → e.on ≠ i := fun e he hb heq => getD_no hir (by rw [← heq]; exact hall e he hb)
      have hjW : j ∉ W := fun hm => by
        have h1 := List.all_eq_true.1 hW j hm
        rw [hoj, Bool.and_eq_true] at h1
        obtain ⟨e, he, h2⟩ := Array.any_eq_true'.1 h1.2
        rw [Bool.and_eq_true, Bool.or_eq_true] at h2
        have h3 := hall e he h2.1
        rcases h2.2 with h4 | h4
        · exact hnot e he h2.1 (by simpa using h4)
        · exact getD_no (hl e.on (by simpa using h4)) h3
      have h1 := wpOp_putIf hoj (hfree j oj hoj hji hjun hnot) (fun cs b => hsel i oi cs b hi) (fun cs b => hsel j oj cs b hoj) hQ hy (H.2 j (ready_mono hj hji))
      have hfree' : ∀ n on, ops[n]? = some on → n ≠ i → (l.setIfInBounds j true).getD n true = false → (∀ e ∈ on.after, Region.binds md e = true → e.on ≠ i) → oi.apart ops on = true := fun n on hn hni hun hno => by
        refine hfree n on hn hni ?_ hno
        by_cases hjn : j = n
        · subst hjn; exact hjun
        · rw [getD_set_ne true hjn] at hun; exact hun
      have hlj : ∀ m ∈ W, (l.setIfInBounds j true).getD m true = false := fun m hm => by
        rw [getD_set_ne true (fun e => hjW (by rw [e]; exact hm))]
        exact hl m hm
      refine wpOp_mono (fun a' w' h3 => ?_) h1
      obtain ⟨y3, s3, t3⟩ := h3
      have s4 : j ≠ V → l.getD V true = false → S w' := fun hjV hv => s3 hjV (by rw [getD_set_ne true (Ne.symm hVi)]; exact hv)
      refine ⟨s4, ih (l.setIfInBounds j true) a' w' hfree' (ready_mono hr (Ne.symm hji)) hlj y3 (fun hv => ?_) ?_⟩
      · by_cases hjV : j = V
        · subst hjV
          exact absurd hv (fun hv => by
            have h5 : (l.setIfInBounds j true).getD j false = true := by
              rcases Nat.lt_or_ge j l.size with h | h
              · simp [h]
              · simp [Array.getElem?_eq_none h] at hjun
            exact getD_no hv h5)
        · exact s4 hjV (by rw [getD_set_ne true hjV] at hv; exact hv)
      · rw [Array.setIfInBounds_comm _ _ hji]
        exact t3
/-- .. with what is to be reckoned as Bools. -/
theorem Any.take (i : Nat) (d : Option Tmp) (v : Value) (W : List Nat) {S' : World → Prop} {oi : Oper} {k : Nat} {l : Array Bool} {a : Act} {w : World} (hi : ops[i]? = some oi) (hd : oi.dst = d)
    (hs : Region.noSelect ops = true) (hf : Region.free md ops l i = true) (hr : (Region.ready md ops l).contains i = true) (hW : waitsOn md ops i W = true) (hl : (W.all fun j => !l.getD j true) = true) (hVi : V ≠ i)
    (hw : Region.wanted oi (yielded ops a.tmps) = true) (hS' : ∀ (l : Array Bool) (w : World), (∀ j ∈ W, l.getD j true = false) → (l.getD V true = false → S w) → S' w)
    (hv : ∀ w, S' w → (execOp a.eval oi).run P w = .ok (.value v) w) (hQ : ∀ c a w, Q (.panic c) (a.put d v) w → Q (.panic c) a w) (hS : l.getD V true = false → S w)
    (h : Any P md ops Q S V k (l.setIfInBounds i true) (a.put d v) w) : Any P md ops Q S V (k + 1) l a w := by
  subst hd
  exact Any.first W hi (Region.noSelect_spec hs) hQ hW hVi hS' k l a w (Region.free_spec hi hf) (by simpa using hr) (fun j hj => by simpa using List.all_eq_true.1 hl j hj) (.inl ⟨hw, hv⟩) hS h
/-- What is ready comes up, one after another. -/
def AllUp (P : Program) (md : Region.Mode) (ops : Array Oper) (Q : Exit → Act → World → Prop) (S : World → Prop) (V k : Nat) (l : Array Bool) (a : Act) (w : World) (rs : List Nat) : Prop :=
  ∀ i ∈ rs, wpOp P ops Q i (fun a' w' => (i ≠ V → l.getD V true = false → S w') ∧ Any P md ops Q S V k (l.setIfInBounds i true) a' w') a w
theorem AllUp.nil {k : Nat} {l : Array Bool} {a : Act} {w : World} : AllUp P md ops Q S V k l a w [] := fun _ h => by cases h
theorem AllUp.cons {k : Nat} {l : Array Bool} {a : Act} {w : World} {i : Nat} {o : Oper} {rs : List Nat} (ho : ops[i]? = some o)
    (h : ∀ K' : Act → World → Prop, Shut (∀ a w, (i ≠ V → l.getD V true = false → S w) → Any P md ops Q S V k (l.setIfInBounds i true) a w → K' a w) → if Region.wanted o (yielded ops a.tmps) = true then Oper.wp P o a w K' Q else K' (a.put o.dst undef) w)
    (hs : AllUp P md ops Q S V k l a w rs) : AllUp P md ops Q S V k l a w (i :: rs) := fun j hj => by
  rcases List.mem_cons.1 hj with rfl | hj
  · exact wpOp_step ho (fun K' hK => h K' (fun a w hS hA => hK a w ⟨hS, hA⟩))
  · exact hs j hj
theorem Any.up {rs : List Nat} {k : Nat} {l : Array Bool} {a : Act} {w : World} (hr : Region.ready md ops l = rs) (hne : rs ≠ []) (h : AllUp P md ops Q S V k l a w rs) : Any P md ops Q S V (k + 1) l a w :=
  ⟨fun h0 => absurd (hr ▸ h0) hne, hr ▸ h⟩
theorem Any.done {l : Array Bool} {a : Act} {w : World} (hr : Region.ready md ops l = []) (h : Q .normal a w) : ∀ k, Any P md ops Q S V k l a w
  | 0 => ⟨hr, h⟩
  | _ + 1 => ⟨fun _ => h, by rw [hr]; simp⟩
theorem any_region {id : Nat} {a : Act} {w : World} (S : World → Prop) (V : Nat) (hm : P.follows .mixedOrders = true) (h : Any P .any ops Q S V ops.size (Array.replicate ops.size false) a w.drew) : (Code.region id ops true).wp P Q a w :=
  wp_region_any hm (Any.any _ _ _ _ h)
end
end Go.Proofs.YtbgaglcgennhiaaGreatDoor
