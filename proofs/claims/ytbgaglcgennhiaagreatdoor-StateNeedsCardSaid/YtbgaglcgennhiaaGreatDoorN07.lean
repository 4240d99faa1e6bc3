import Derived.Test.YtbgaglcgennhiaaGreatDoorN06
section
/- what is reached of it -/
namespace Go.Proofs.YtbgaglcgennhiaaGreatDoor
open Go.RowKit Go.Sort Sy
/-- What is asked of the function that holds two against each other. -/
def CmpS (g : Nat) (cb : Array Value) (cf : ByteArray → ByteArray → Int) (W0 : World) (B : Nat) : Prop :=
  ∀ (D : Array ByteArray) (W : World), St encS 1 W0 B D W → ∀ x y, Calls Tryz.prog g (#[.string x, .string y] ++ cb) W fun e w' => e = .returned (.int .i64 (cf x y)) ∧ Below W.heap.size W w'
set_option maxHeartbeats 4000000 in
set_option maxRecDepth 100000 in
theorem insertionS_any (lt : ByteArray → ByteArray → Bool) (hW : Weak lt) (cf : ByteArray → ByteArray → Int) (hcf : ∀ x y, lt x y = decide (cf x y < 0)) (g : Nat) (cb : Array Value) (eg : ∀ args w, (callFunc g args).run Tryz.prog w = .ok (.enter g args) w)
    (X S Y : List ByteArray) (a b len cap : Nat) (W0 W : World) (B : Nat) (hC : CmpS g cb cf W0 B) (hl : (X ++ S ++ Y).length = len) (hlen : len ≤ 1000000000) (ha : X.length = a) (hb : a + S.length = b) (hS : St encS 1 W0 B (X ++ S ++ Y).toArray W) :
    Calls Tryz.prog 285 #[.slice (some ⟨B, 0, none⟩) len cap, .int .i64 a, .int .i64 b, .func (.func g) #[] cb] W fun e w' => e = .returned (.tuple #[]) ∧ St encS 1 W0 B (X ++ sortS lt S ++ Y).toArray w' := by
  obtain ⟨T, hT⟩ : ∃ T, (X ++ sortS lt S ++ Y).toArray = T := ⟨_, rfl⟩
  rw [hT]
  have HT := Lib.hid hT
  have HC := Lib.hid hC
  have HS := Lib.hid hS
  have HL := Lib.hid hl
  have HA := Lib.hid ha
  have HB := Lib.hid hb
  have HW := Lib.hid hW
  have HCF := Lib.hid hcf
  have hbl : b ≤ len := by rw [← hl]; simp; omega
  have hab : a ≤ b := by omega
  have wa : IntKind.i64.wrap ((a : Int) + 1) = (a : Int) + 1 := by rw [IntKind.wrap_i64]; omega
  clear hC hS hl ha hb hW hcf hT
  go_enter Tryz.func285, Tryz.ntmps285
  go_wp2_with fail
  go_loopw [8] (fun iv wr => ∃ (i : Nat) (D : Array ByteArray), iv = .int .i64 (i : Nat) ∧ a < i ∧ i ≤ b + 1 ∧ Hid (OutR lt X S Y i D) ∧ Hid (St encS 1 W0 B D wr)) (fun iv _ => b + 1 - (intOf iv).toNat)
  case atStart => exact ⟨a + 1, _, by go_num, by omega, by omega, by rw [← HA.out]; exact OutR.start X S Y, HS.out⟩
  case round =>
    clear HS
    obtain ⟨i, D, rfl, hai, hib, HO, SD⟩ := hrel
    by_cases hlt : i < b
    · have hltz : (i : Int) < (b : Int) := by omega
      obtain ⟨x, hx, hI⟩ := HO.out.inner (by rw [HA.out]; exact hai) (by rw [HA.out, HB.out]; exact hlt)
      have HX := Lib.hid hx
      have HI := Lib.hid hI
      have hUp := Lib.hid (sortS_up HW.out (S.take (i - X.length)))
      have HZ : Hid (X.length + (sortS lt (S.take (i - X.length))).length + 1 + (S.drop (i - X.length + 1) ++ Y).length = len) := by
        unfold Hid
        have := HL.out
        simp only [List.length_append, sortS_len, List.length_take, List.length_drop] at this ⊢
        have h1 := HA.out
        have h2 := HB.out
        omega
      have hNX : Hid (OutR lt X S Y (i + 1) (X ++ insS lt x (sortS lt (S.take (i - X.length))) ++ (S.drop (i - X.length + 1) ++ Y)).toArray) := OutR.next (by rw [HA.out]; exact hai) hx
      obtain ⟨L, hL⟩ : ∃ L, sortS lt (S.take (i - X.length)) = L := ⟨_, rfl⟩
      obtain ⟨Z, hZ⟩ : ∃ L, S.drop (i - X.length + 1) ++ Y = L := ⟨_, rfl⟩
      rw [hL, hZ] at HI hNX HZ
      rw [hL] at hUp
      have wi : IntKind.i64.wrap ((i : Int) + 1) = (i : Int) + 1 := by rw [IntKind.wrap_i64]; omega
      have hil : i < len := by omega
      clear hx hI hL hZ HO
      go_wp2_with fail
      go_loopw [9] (fun jv wr => ∃ (j : Nat) (E : Array ByteArray), jv = .int .i64 (j : Nat) ∧ a ≤ j ∧ j ≤ i ∧ Hid (InsR lt X x L Z j E) ∧ Hid (St encS 1 W0 B E wr)) (fun jv _ => (intOf jv).toNat)
      case atStart => exact ⟨i, D, rfl, by omega, Nat.le_refl _, HI, SD⟩
      case round =>
        clear SD HI
        obtain ⟨j, E, rfl, haj, hji, HJ, SE⟩ := hrel
        have hEl : E.size = len := HJ.out.size.1.trans HZ.out
        by_cases hja : a < j
        · obtain ⟨p, hq⟩ : ∃ p, p + 1 = j := ⟨j - 1, by omega⟩
          have wq : IntKind.i64.wrap ((j : Int) - 1) = (p : Int) := by rw [IntKind.wrap_i64]; omega
          have hgq : (a : Int) < (j : Int) := by omega
          have hgd : decide ((a : Int) < (j : Int)) = true := decide_eq_true hgq
          have hgd2 : decide ((j : Int) > (a : Int)) = true := decide_eq_true hgq
          have hpl : p < len := by omega
          have hql : j < len := by omega
          have cp : ∀ v : Bel wr, v.v.cell? ⟨B, p, none⟩ = some (.string E[p]!) := fun v => ((SE.out.bel v).cell p (by rw [hEl]; exact hpl)).1
          have cq : ∀ v : Bel wr, v.v.cell? ⟨B, j, none⟩ = some (.string E[j]!) := fun v => ((SE.out.bel v).cell j (by rw [hEl]; exact hql)).1
          have hcm : ∀ v : Bel wr, Calls Tryz.prog g (#[.string E[j]!, .string E[p]!] ++ cb) v.v fun e w' => e = .returned (.int .i64 (cf E[j]! E[p]!)) ∧ Below v.v.heap.size v.v w' := fun v => HC.out E v.v (SE.out.bel v) _ _
          have SW1 : Hid (∀ w2, Below wr.heap.size wr w2 → St encS 1 W0 B (swp E j p) ((w2.setCell ⟨B, j, none⟩ (.string E[p]!)).setCell ⟨B, p, none⟩ (.string E[j]!))) := fun w2 h2 => (SE.out.below h2).swapS j p (by rw [hEl]; exact hql) (by rw [hEl]; exact hpl)
          have CL : Hid (∀ w2, Below wr.heap.size wr w2 → (w2.cell? ⟨B, p, none⟩ = some (.string E[p]!) ∧ w2.frozen? ⟨B, p, none⟩ = false) ∧ (w2.cell? ⟨B, j, none⟩ = some (.string E[j]!) ∧ w2.frozen? ⟨B, j, none⟩ = false) ∧ (w2.setCell ⟨B, j, none⟩ (.string E[p]!)).cell? ⟨B, p, none⟩ = some (.string E[p]!)) := fun w2 h2 =>
            ⟨(SE.out.below h2).cell p (by rw [hEl]; exact hpl), (SE.out.below h2).cell j (by rw [hEl]; exact hql), by rw [World.cell?_setCell_other _ _ _ _ (by simp)]; exact ((SE.out.below h2).cell p (by rw [hEl]; exact hpl)).1⟩
          have hlq := HCF.out E[j]! E[p]!
          have hst : Hid (lt E[j]! E[p]! = true → InsR lt X x L Z p (swp E j p)) := fun h => by
            have := HJ.out.step (by rw [HA.out]; omega) (by rw [show j - 1 = p by omega]; exact h)
            rwa [show j - 1 = p by omega] at this
          have hsp : Hid (lt E[j]! E[p]! = false → E = (X ++ insS lt x L ++ Z).toArray) := fun h => HJ.out.stop HW.out hUp.out (Or.inr (by rw [show j - 1 = p by omega]; exact h))
          obtain ⟨s, hs⟩ : ∃ s, E[j]! = s := ⟨_, rfl⟩
          obtain ⟨t, ht⟩ : ∃ s, E[p]! = s := ⟨_, rfl⟩
          rw [hs, ht] at hcm SW1 CL hlq hst hsp
          rw [ht] at cp
          rw [hs] at cq
          have hip : p < i := by omega
          have hpa : a ≤ p := by omega
          have HQP : Hid (p + 1 = j) := hq
          clear hs ht hq
          by_cases hc : cf s t < 0
          · have hcd : decide (cf s t < 0) = true := decide_eq_true hc
            have hL2 : Hid (lt s t = true) := by unfold Hid; rw [hlq]; exact hcd
            clear hlq
            go_wp2_with fail
            refine wp_region_quiet_bel (by kernel_rfl) (by kernel_rfl) ?_
            repeat (quiet_step (first | (go_at_fn g; exact Calls.bel_of (hcm _))))
            refine wpQuiet_nil ?_
            intro w2 hw'
            have hb2 : Below wr.heap.size wr w2 := by obtain ⟨v, rfl⟩ := hw'; exact v.h
            clear hw'
            obtain ⟨⟨c1, c2⟩, ⟨c3, c4⟩, c5⟩ := CL.out w2 hb2
            have SW2 := Lib.hid (SW1.out w2 hb2)
            have hR := Lib.hid (hst.out hL2.out)
            clear cp cq hcm CL SW1 hst hsp SE HJ
            go_wp2_with fail
            go_region
            have S3 := Lib.hid SW2.out.drew
            go_wp2_with fail
            go_roundw
            case rel => exact ⟨p, _, rfl, hpa, by omega, hR, S3⟩
            case measure => have := HQP.out; simp [intOf]; omega
          · have hcd : decide (cf s t < 0) = false := decide_eq_false hc
            have hL2 : Hid (lt s t = false) := by unfold Hid; rw [hlq]; exact hcd
            clear hlq
            go_wp2_with fail
            refine wp_region_quiet_bel (by kernel_rfl) (by kernel_rfl) ?_
            repeat (quiet_step (first | (go_at_fn g; exact Calls.bel_of (hcm _))))
            refine wpQuiet_nil ?_
            intro w2 hw'
            have hb2 : Below wr.heap.size wr w2 := by obtain ⟨v, rfl⟩ := hw'; exact v.h
            clear hw'
            have S3 := Lib.hid (SE.out.below hb2)
            have hE := Lib.hid (hsp.out hL2.out)
            clear cp cq hcm CL SW1 hst hsp SE HJ
            go_wp2_with fail
            go_roundw
            case rel => exact ⟨i + 1, _, by go_num, by omega, by omega, hNX, by rw [← hE.out]; exact S3.out⟩
            case measure => simp [intOf]; omega
        · have hje : j = a := by omega
          subst hje
          have hg : decide ((j : Int) < (j : Int)) = false := decide_eq_false (by omega)
          have hg2 : ¬ (j : Int) < (j : Int) := by omega
          have hE := Lib.hid (HJ.out.stop HW.out hUp.out (Or.inl (by rw [HA.out]; exact Nat.le_refl _)))
          clear HJ
          go_wp2_with fail
          go_quiet (fail)
          have S3 : Hid (St encS 1 W0 B E (wr.drewN nq)) := SE.out.drewN nq
          go_wp2_with fail
          go_roundw
          case rel => exact ⟨i + 1, _, by go_num, by omega, by omega, hNX, by rw [← hE.out]; exact S3.out⟩
          case measure => simp [intOf]; omega
    · have hltz : ¬ (i : Int) < (b : Int) := by omega
      have hD := HO.out.last (by rw [HA.out, HB.out]; omega)
      go_wp2_with fail
      go_end0
      exact ⟨rfl, by rw [← HT.out, ← hD]; exact SD.out⟩
end Go.Proofs.YtbgaglcgennhiaaGreatDoor
end
section
/- what is reached of it -/
namespace Go.Proofs.YtbgaglcgennhiaaGreatDoor.Sy
open Go Go.Proofs Go.Proofs.YtbgaglcgennhiaaGreatDoor Go.RowKit Go.Lib Go.Sort
variable {α : Type} {lt : α → α → Bool}
theorem up_le (hW : Weak lt) {B : List α} (hB : Up lt B) {i j : Nat} (hij : i ≤ j) (hj : j < B.length) : lt (B[j]'hj) (B[i]'(by omega)) = false := by
  by_cases e : i = j
  · subst e; exact hW.irr _
  · exact List.pairwise_iff_getElem.1 hB i j (by omega) hj (by omega)
/-- one element x ahead of B: sought from m on -/
def SeaL (lt : α → α → Bool) (x : α) (B : List α) (m i j : Nat) : Prop := (∀ c ∈ B.take (i - m), lt c x = true) ∧ ∀ c ∈ (B.drop (j - m)).head?, lt c x = false
theorem SeaL.start (x : α) (B : List α) (m b : Nat) (hb : m + B.length = b) : SeaL lt x B m m b := by
  refine ⟨by simp, ?_⟩
  rw [List.drop_eq_nil_of_le (by omega)]; simp
theorem SeaL.up (hW : Weak lt) {x : α} {B : List α} {m i j h : Nat} (s : SeaL lt x B m i j) (hB : Up lt B) (hm : m ≤ h) (hl : h - m < B.length) (hx : lt (B[h - m]'hl) x = true) : SeaL lt x B m (h + 1) j := by
  refine ⟨?_, s.2⟩
  intro c hc
  obtain ⟨k, hk, rfl⟩ := List.mem_take_iff_getElem.1 hc
  exact hW.n2 hx (up_le hW hB (by omega) hl)
theorem SeaL.down {x : α} {B : List α} {m i j h : Nat} (s : SeaL lt x B m i j) (hl : h - m < B.length) (hx : lt (B[h - m]'hl) x = false) : SeaL lt x B m i h := by
  refine ⟨s.1, ?_⟩
  rw [List.drop_eq_getElem_cons hl]
  simp only [List.head?_cons, Option.mem_def, Option.some.injEq, forall_eq']
  exact hx
theorem SeaL.last {x : α} {B : List α} {m i : Nat} (s : SeaL lt x B m i i) : mergeS lt [x] B = B.take (i - m) ++ x :: B.drop (i - m) := by
  have := merge_one x (B.take (i - m)) (B.drop (i - m)) s.1 s.2
  rwa [List.take_append_drop] at this
/-- one element x behind A: sought from a on -/
def SeaR (lt : α → α → Bool) (x : α) (A : List α) (a i j : Nat) : Prop := (∀ c ∈ A.take (i - a), lt x c = false) ∧ ∀ c ∈ A.drop (j - a), lt x c = true
theorem SeaR.start (x : α) (A : List α) (a m : Nat) (hm : a + A.length = m) : SeaR lt x A a a m := by
  refine ⟨by simp, ?_⟩
  rw [List.drop_eq_nil_of_le (by omega)]; simp
theorem SeaR.up (hW : Weak lt) {x : α} {A : List α} {a i j h : Nat} (s : SeaR lt x A a i j) (hA : Up lt A) (hm : a ≤ h) (hl : h - a < A.length) (hx : lt x (A[h - a]'hl) = false) : SeaR lt x A a (h + 1) j := by
  refine ⟨?_, s.2⟩
  intro c hc
  obtain ⟨k, hk, rfl⟩ := List.mem_take_iff_getElem.1 hc
  cases e : lt x (A[k]'(by omega)) with
  | false => rfl
  | true => have := hW.n1 e (up_le hW hA (show k ≤ h - a by omega) hl); rw [hx] at this; cases this
theorem SeaR.down (hW : Weak lt) {x : α} {A : List α} {a i j h : Nat} (s : SeaR lt x A a i j) (hA : Up lt A) (hl : h - a < A.length) (hx : lt x (A[h - a]'hl) = true) : SeaR lt x A a i h := by
  refine ⟨s.1, ?_⟩
  intro c hc
  obtain ⟨k, hk, rfl⟩ := List.mem_iff_getElem.1 hc
  rw [List.getElem_drop]
  rw [List.length_drop] at hk
  exact hW.n1 hx (up_le hW hA (by omega) (by omega))
theorem SeaR.last {x : α} {A : List α} {a i : Nat} (s : SeaR lt x A a i i) : mergeS lt A [x] = A.take (i - a) ++ x :: A.drop (i - a) := by
  have := one_merge x (A.take (i - a)) (A.drop (i - a)) s.1 s.2
  rwa [List.take_append_drop] at this
/-- x at place k of X, L, Y -/
def MovR (X : List α) (x : α) (L Y : List α) (k : Nat) (D : Array α) : Prop := D = (X ++ L.take (k - X.length) ++ x :: (L.drop (k - X.length) ++ Y)).toArray
theorem MovR.size {X : List α} {x : α} {L Y : List α} {k : Nat} {D : Array α} (h : MovR X x L Y k D) : D.size = X.length + L.length + 1 + Y.length := by
  unfold MovR at h
  rw [h]; simp; omega
theorem MovR.up [Inhabited α] {X : List α} {x : α} {L Y : List α} {k : Nat} {D : Array α} (h : MovR X x L Y k D) (hk : X.length ≤ k) (hl : k < X.length + L.length) : MovR X x L Y (k + 1) (swp D k (k + 1)) := by
  unfold MovR at h ⊢
  have e : L.drop (k - X.length) = L[k - X.length] :: L.drop (k - X.length + 1) := List.drop_eq_getElem_cons (by omega)
  have t : L.take (k - X.length + 1) = L.take (k - X.length) ++ [L[k - X.length]] := by rw [List.take_add_one, List.getElem?_eq_getElem (by omega)]; rfl
  rw [h, e, show k + 1 - X.length = k - X.length + 1 by omega, t]
  have e1 : X ++ L.take (k - X.length) ++ x :: (L[k - X.length] :: L.drop (k - X.length + 1) ++ Y) = (X ++ L.take (k - X.length)) ++ x :: ([] ++ L[k - X.length] :: (L.drop (k - X.length + 1) ++ Y)) := by simp only [List.append_assoc, List.cons_append, List.nil_append]
  rw [e1, swp_list _ _ _ _ _ _ _ (by simp; omega) (by simp; omega)]
  simp only [List.append_assoc, List.cons_append, List.nil_append]
theorem MovR.down [Inhabited α] {X : List α} {x : α} {L Y : List α} {k : Nat} {D : Array α} (h : MovR X x L Y (k + 1) D) (hk : X.length ≤ k) (hl : k < X.length + L.length) : MovR X x L Y k (swp D (k + 1) k) := by
  have hs := h.size
  unfold MovR at h ⊢
  have e : L.drop (k - X.length) = L[k - X.length] :: L.drop (k - X.length + 1) := List.drop_eq_getElem_cons (by omega)
  have t : L.take (k - X.length + 1) = L.take (k - X.length) ++ [L[k - X.length]] := by rw [List.take_add_one, List.getElem?_eq_getElem (by omega)]; rfl
  rw [swp_comm _ _ _ (by omega) (by omega), h, e, show k + 1 - X.length = k - X.length + 1 by omega, t]
  have e1 : X ++ (L.take (k - X.length) ++ [L[k - X.length]]) ++ x :: (L.drop (k - X.length + 1) ++ Y) = (X ++ L.take (k - X.length)) ++ L[k - X.length] :: ([] ++ x :: (L.drop (k - X.length + 1) ++ Y)) := by simp only [List.append_assoc, List.cons_append, List.nil_append]
  rw [e1, swp_list _ _ _ _ _ _ _ (by simp; omega) (by simp; omega)]
  simp only [List.append_assoc, List.cons_append, List.nil_append]
theorem get_mid [Inhabited α] (X L Y : List α) (i : Nat) (h : X.length ≤ i) (hl : i - X.length < L.length) : (X ++ L ++ Y).toArray[i]! = L[i - X.length] := by
  rw [getElem!_pos _ _ (by simp; omega)]
  simp only [List.getElem_toArray]
  rw [List.getElem_append_left (by simp; omega), List.getElem_append_right (by omega)]
/-- two sorted lists, cut at s and at e -/
theorem sym_cut [Inhabited α] (hW : Weak lt) (X A B Y : List α) (D : Array α) (a m b s e : Nat) (hD : (X ++ A ++ B ++ Y).toArray = D) (hX : X.length = a) (hm : a + A.length = m) (hb : m + B.length = b) (hA : Up lt A) (hB : Up lt B) (has : a ≤ s) (hsm : s ≤ m) (hme : m ≤ e) (heb : e ≤ b)
    (h1 : s = a ∨ e = b ∨ lt D[e]! D[s - 1]! = false) (h2 : s = m ∨ e = m ∨ lt D[e - 1]! D[s]! = true) :
    mergeS lt A B = mergeS lt (A.take (s - a)) (B.take (e - m)) ++ mergeS lt (A.drop (s - a)) (B.drop (e - m)) := by
  have gA : ∀ i, a ≤ i → (hi : i - a < A.length) → D[i]! = A[i - a]'hi := fun i h hi => by
    subst hX; rw [← hD, show X ++ A ++ B ++ Y = X ++ A ++ (B ++ Y) by simp]; exact get_mid X A (B ++ Y) i h hi
  have gB : ∀ i, m ≤ i → (hi : i - m < B.length) → D[i]! = B[i - m]'hi := fun i h hi => by
    have hl : (X ++ A).length = m := by simp; omega
    rw [← hD]
    have := get_mid (X ++ A) B Y i (by omega) (by omega)
    rw [this]
    simp only [hl]
  have key := up_cut hW (A.take (s - a)) (A.drop (s - a)) (B.take (e - m)) (B.drop (e - m)) (by rw [List.take_append_drop]; exact hA) (by rw [List.take_append_drop]; exact hB) ?_ ?_
  · rwa [List.take_append_drop, List.take_append_drop] at key
  · intro x hx y hy
    by_cases c1 : s = m
    · rw [List.drop_eq_nil_of_le (by omega)] at hx; simp at hx
    · by_cases c2 : e = m
      · rw [c2, Nat.sub_self, List.take_zero] at hy; simp at hy
      · have k := (h2.resolve_left c1).resolve_left c2
        rw [gA s has (by omega), gB (e - 1) (by omega) (by omega)] at k
        rw [List.drop_eq_getElem_cons (show s - a < A.length by omega)] at hx
        simp only [List.head?_cons, Option.mem_def, Option.some.injEq] at hx
        rw [List.getLast?_eq_getElem?, List.length_take, Nat.min_eq_left (by omega), List.getElem?_take, if_pos (by omega), List.getElem?_eq_getElem (show e - m - 1 < B.length by omega)] at hy
        simp only [Option.mem_def, Option.some.injEq] at hy
        rw [← hx, ← hy]
        simp only [show e - m - 1 = e - 1 - m by omega]
        exact k
  · intro x hx y hy
    by_cases c1 : s = a
    · rw [c1, Nat.sub_self, List.take_zero] at hx; simp at hx
    · by_cases c2 : e = b
      · rw [List.drop_eq_nil_of_le (by omega)] at hy; simp at hy
      · have k := (h1.resolve_left c1).resolve_left c2
        rw [gB e hme (by omega), gA (s - 1) (by omega) (by omega)] at k
        rw [List.drop_eq_getElem_cons (show e - m < B.length by omega)] at hy
        simp only [List.head?_cons, Option.mem_def, Option.some.injEq] at hy
        rw [List.getLast?_eq_getElem?, List.length_take, Nat.min_eq_left (by omega), List.getElem?_take, if_pos (by omega), List.getElem?_eq_getElem (show s - a - 1 < A.length by omega)] at hx
        simp only [Option.mem_def, Option.some.injEq] at hx
        rw [← hx, ← hy]
        simp only [show s - a - 1 = s - 1 - a by omega]
        exact k
end Go.Proofs.YtbgaglcgennhiaaGreatDoor.Sy
end
section
/- what is reached of it -/
namespace Go.Proofs.YtbgaglcgennhiaaGreatDoor.Sy
open Go Go.Proofs Go.Proofs.YtbgaglcgennhiaaGreatDoor Go.RowKit Go.Lib Go.Sort
variable {α : Type} {lt : α → α → Bool}
def ch (lt : α → α → Bool) (w : Nat) : Nat → List α → List α
  | 0, L => sortS lt L
  | k + 1, L => sortS lt (L.take w) ++ ch lt w k (L.drop w)
theorem ch_len (w : Nat) : ∀ (k : Nat) (L : List α), (ch lt w k L).length = L.length
  | 0, L => sortS_len L
  | k + 1, L => by rw [ch, List.length_append, sortS_len, ch_len w k, List.length_take, List.length_drop]; omega
theorem sortS_nil : sortS lt ([] : List α) = [] := rfl
/-- some blocks are sorted, L' is not: of the first i -/
structure Ahead (lt : α → α → Bool) (w : Nat) (L X R : List α) (j : Nat) : Prop where
  len : X.length = j * w
  sum : X.length + R.length = L.length
  fin : ∀ t, X ++ ch lt w t R = ch lt w (j + t) L
theorem Ahead.start (w : Nat) (L : List α) : Ahead lt w L [] L 0 := ⟨by simp, by simp, fun t => by rw [Nat.zero_add, List.nil_append]⟩
theorem Ahead.step {w : Nat} {L X R : List α} {j : Nat} (h : Ahead lt w L X R j) (hR : w ≤ R.length) : Ahead lt w L (X ++ sortS lt (R.take w)) (R.drop w) (j + 1) :=
  ⟨by rw [List.length_append, sortS_len, List.length_take, h.len, Nat.add_mul, Nat.min_eq_left hR]; omega, by rw [List.length_append, sortS_len, List.length_take, List.length_drop]; have := h.sum; omega,
    fun t => by rw [List.append_assoc, show j + 1 + t = j + (t + 1) by omega, ← h.fin (t + 1)]; rfl⟩
/-- all of it, sorted by blocks of w -/
def Blk (lt : α → α → Bool) (w : Nat) (L : List α) (T : List α) : Prop := ∃ k, k * w ≤ L.length ∧ L.length < (k + 1) * w ∧ T = ch lt w k L
theorem Blk.last {w : Nat} {L T : List α} (h : Blk lt w L T) (hw : L.length ≤ w) : T = sortS lt L := by
  obtain ⟨k, h1, h2, rfl⟩ := h
  match k, h1, h2 with
  | 0, _, _ => rfl
  | 1, h1, _ =>
    rw [Nat.one_mul] at h1
    have e : L.length = w := by omega
    simp only [ch]
    rw [List.take_of_length_le (by omega), List.drop_eq_nil_of_le (by omega), sortS_nil, List.append_nil]
  | k + 2, h1, h2 =>
    exfalso
    have : (k + 2) * w = k * w + 2 * w := by rw [Nat.add_mul]
    have h3 : (k + 2 + 1) * w = k * w + 3 * w := by rw [Nat.add_assoc, Nat.add_mul]
    omega
/-- on the way to blocks of 2 w: so far X; behind it R, by blocks of w -/
structure Twice (lt : α → α → Bool) (w : Nat) (L X R U : List α) (j : Nat) : Prop where
  ah : Ahead lt (2 * w) L X R j
  blk : Blk lt w R U
theorem Twice.start {w : Nat} {L T : List α} (h : Blk lt w L T) : Twice lt w L [] L T 0 := ⟨Ahead.start _ _, h⟩
theorem Blk.len {w : Nat} {L T : List α} (h : Blk lt w L T) : T.length = L.length := by
  obtain ⟨k, _, _, rfl⟩ := h
  exact ch_len _ _ _
theorem Twice.step (hW : Weak lt) {w : Nat} {L X R U : List α} {j : Nat} (h : Twice lt w L X R U j) (hw : 0 < w) (hR : 2 * w ≤ R.length) :
    ∃ A C Z, U = A ++ C ++ Z ∧ A.length = w ∧ C.length = w ∧ Up lt A ∧ Up lt C ∧ Twice lt w L (X ++ mergeS lt A C) (R.drop (2 * w)) Z (j + 1) := by
  obtain ⟨k, h1, h2, rfl⟩ := h.blk
  match k, h1, h2 with
  | 0, _, h2 => exfalso; rw [Nat.zero_add, Nat.one_mul] at h2; omega
  | 1, _, h2 => exfalso; have : (1 + 1) * w = 2 * w := rfl; omega
  | k + 2, h1, h2 =>
    have e1 : (k + 2) * w = k * w + 2 * w := by rw [Nat.add_mul]
    have e2 : (k + 2 + 1) * w = (k + 1) * w + 2 * w := by rw [show k + 2 + 1 = (k + 1) + 2 by omega, Nat.add_mul]
    refine ⟨sortS lt (R.take w), sortS lt ((R.drop w).take w), ch lt w k ((R.drop w).drop w), by simp [ch], by rw [sortS_len, List.length_take]; omega, by rw [sortS_len, List.length_take, List.length_drop]; omega, sortS_up hW _, sortS_up hW _, ?_⟩
    have et : R.take w ++ (R.drop w).take w = R.take (2 * w) := by
      rw [Nat.two_mul, List.take_add]
    have ed : (R.drop w).drop w = R.drop (2 * w) := by rw [List.drop_drop, Nat.two_mul]
    rw [← sort_app hW, et, ed]
    refine ⟨h.ah.step hR, k, ?_, ?_, rfl⟩
    · rw [List.length_drop]; omega
    · rw [List.length_drop]; omega
/-- the last two, or one, or none -/
theorem Twice.two (hW : Weak lt) {w : Nat} {L X R U : List α} {j : Nat} (h : Twice lt w L X R U j) (hR : R.length < 2 * w) (hm : w < R.length) :
    ∃ A C, U = A ++ C ∧ A.length = w ∧ 0 < C.length ∧ Up lt A ∧ Up lt C ∧ Blk lt (2 * w) L (X ++ mergeS lt A C) := by
  obtain ⟨k, h1, h2, rfl⟩ := h.blk
  match k, h1, h2 with
  | 0, _, h2 => exfalso; rw [Nat.zero_add, Nat.one_mul] at h2; omega
  | 1, _, h2 =>
    refine ⟨sortS lt (R.take w), sortS lt (R.drop w), rfl, by rw [sortS_len, List.length_take]; omega, by rw [sortS_len, List.length_drop]; omega, sortS_up hW _, sortS_up hW _, ?_⟩
    rw [← sort_app hW, List.take_append_drop]
    have hl := h.ah.len
    have hs := h.ah.sum
    refine ⟨j, by omega, by rw [Nat.add_mul]; omega, ?_⟩
    have := h.ah.fin 0
    simpa [ch] using this
  | k + 2, h1, h2 =>
    exfalso
    have e1 : (k + 2) * w = k * w + 2 * w := by rw [Nat.add_mul]
    omega
theorem Twice.one {w : Nat} {L X R U : List α} {j : Nat} (h : Twice lt w L X R U j) (hw : 0 < w) (hm : R.length ≤ w) : Blk lt (2 * w) L (X ++ U) := by
  have hU : U = sortS lt R := h.blk.last hm
  rw [hU]
  have hl := h.ah.len
  have hs := h.ah.sum
  refine ⟨j, by omega, by rw [Nat.add_mul]; omega, ?_⟩
  have := h.ah.fin 0
  simpa [ch] using this
theorem Ahead.blk {w : Nat} {L X R : List α} {j : Nat} (h : Ahead lt w L X R j) (hR : R.length < w) : Blk lt w L (X ++ sortS lt R) := by
  have hl := h.len
  have hs := h.sum
  refine ⟨j, by omega, by rw [Nat.add_mul]; omega, ?_⟩
  have := h.fin 0
  simpa [ch] using this
end Go.Proofs.YtbgaglcgennhiaaGreatDoor.Sy
end
