/- Texts laid together: VRq VRs -/
import Derived.Test.YtphopnfnjnieaaaGreatDoorVWr
import Derived.Test.YtphopnfnjnieaaaGreatDoorVSame
import Derived.IntWalk
import Derived.Deep.QuietTactic
import Derived.BigQuiet
/-
  How much cards are: what the laws let in (SmallProps), what is written of them, what is read from a text. Nothing of any program.
-/
namespace Go.Proofs.YtphopnfnjnieaaaGreatDoor
open Go.RowKit Vc

/-- what SmallProps adds up -/
def parN (l : List Par) : Nat := (l.map fun a => 5 + a.1.length + a.2.length).sum
def costP (p : Pr) : Nat := 5 + p.1.length + p.2.1.length + p.2.2.2.length + parN p.2.2.1
def costC (c : List Pr) : Nat := (c.map costP).sum
theorem parN_nil : parN [] = 0 := rfl
theorem parN_cons (a : Par) (l : List Par) : parN (a :: l) = 5 + a.1.length + a.2.length + parN l := by simp [parN]
theorem costC_nil : costC [] = 0 := rfl
theorem costC_cons (p : Pr) (c : List Pr) : costC (p :: c) = costP p + costC c := by simp [costC]
theorem parN_app : ∀ a b : List Par, parN (a ++ b) = parN a + parN b
  | [], b => by rw [List.nil_append, parN_nil, Nat.zero_add]
  | x :: a, b => by rw [List.cons_append, parN_cons, parN_cons, parN_app a b]; omega
theorem costC_app : ∀ a b : List Pr, costC (a ++ b) = costC a + costC b
  | [], b => by rw [List.nil_append, costC_nil, Nat.zero_add]
  | x :: a, b => by rw [List.cons_append, costC_cons, costC_cons, costC_app a b]; omega
theorem parN_len : ∀ l : List Par, 5 * l.length ≤ parN l
  | [] => by rw [parN_nil]; exact Nat.le_refl _
  | a :: l => by have := parN_len l; rw [parN_cons, List.length_cons]; omega
theorem costC_len : ∀ c : List Pr, 5 * c.length ≤ costC c
  | [] => by rw [costC_nil]; exact Nat.le_refl _
  | p :: c => by have := costC_len c; rw [costC_cons, List.length_cons]; unfold costP; omega
theorem parN_take {l : List Par} {k : Nat} {a : Par} (h : l[k]? = some a) : parN (l.take (k + 1)) = parN (l.take k) + (5 + a.1.length + a.2.length) := by
  rw [List.take_add_one, h, parN_app]
  show _ + parN [a] = _
  rw [parN_cons, parN_nil]
  omega
theorem costC_take {c : List Pr} {k : Nat} {p : Pr} (h : c[k]? = some p) : costC (c.take (k + 1)) = costC (c.take k) + costP p := by
  rw [List.take_add_one, h, costC_app]
  show _ + costC [p] = _
  rw [costC_cons, costC_nil]
  omega
theorem parN_le (l : List Par) (k : Nat) : parN (l.take k) ≤ parN l := by
  conv => rhs; rw [← List.take_append_drop k l]
  rw [parN_app]
  omega
theorem costC_le (c : List Pr) (k : Nat) : costC (c.take k) ≤ costC c := by
  conv => rhs; rw [← List.take_append_drop k c]
  rw [costC_app]
  omega
theorem cost_mem {c : List Pr} {p : Pr} (h : p ∈ c) : costP p ≤ costC c := by
  induction c with
  | nil => cases h
  | cons q c ih =>
    rw [costC_cons]
    rcases List.mem_cons.1 h with rfl | h
    · omega
    · have := ih h; omega
theorem pvalT_len (v : List UInt8) : (pvalT v).length ≤ v.length + 2 := by
  unfold pvalT
  split
  · simp
  · omega
theorem parT_len (a : Par) : (parT a).length ≤ a.1.length + a.2.length + 4 := by
  have h2 := pvalT_len a.2
  unfold parT
  simp only [List.length_cons, List.length_append]
  omega
theorem parsT_len : ∀ l : List Par, (l.flatMap parT).length ≤ parN l
  | [] => by simp [parN_nil]
  | a :: l => by
    have h1 := parsT_len l
    have h2 := parT_len a
    rw [List.flatMap_cons, parN_cons, List.length_append]
    omega
theorem groupT_len (g : List UInt8) : (groupT g).length ≤ g.length + 1 := by
  unfold groupT
  split
  · simp
  · simp
theorem line_len (p : Pr) : (lineT p).length + 3 ≤ costP p := by
  have h1 := parsT_len p.2.2.1
  have h2 := groupT_len p.1
  unfold lineT costP
  simp only [List.length_append, List.length_cons]
  omega
/-- a card's lines -/
def costL (c : List Pr) : Nat := (c.map fun p => (lineT p).length + 3).sum
theorem costL_nil : costL [] = 0 := rfl
theorem costL_cons (p : Pr) (c : List Pr) : costL (p :: c) = (lineT p).length + 3 + costL c := by simp [costL]
theorem costL_app : ∀ a b : List Pr, costL (a ++ b) = costL a + costL b
  | [], b => by rw [List.nil_append, costL_nil, Nat.zero_add]
  | x :: a, b => by rw [List.cons_append, costL_cons, costL_cons, costL_app a b]; omega
theorem costL_le : ∀ c : List Pr, costL c ≤ costC c
  | [] => Nat.le_refl _
  | p :: c => by have h1 := costL_le c; have h2 := line_len p; rw [costL_cons, costC_cons]; omega
theorem bulk_sts : ∀ m : List (List UInt8), bulk (sts m) = (m.map fun x => x.length + 3).sum
  | [] => rfl
  | x :: m => by
    have := bulk_sts m
    unfold bulk sts at this ⊢
    rw [List.map_cons, List.map_cons, List.sum_cons, List.map_cons, List.sum_cons, this]
    congr 1
theorem bulk_card (c : List Pr) : bulk (sts (cardT c)) = 40 + costL c := by
  rw [bulk_sts]
  unfold cardT costL
  simp only [List.map_cons, List.map_append, List.sum_cons, List.sum_append, List.map_nil, List.sum_nil, List.map_map]
  show 14 + (14 + ((List.map (fun p => (lineT p).length + 3) c).sum + (12 + 0))) = _
  omega
theorem bulkV_cons (c : List Pr) (l : List (List Pr)) : bulkV (c :: l) = 40 + costL c + bulkV l := by
  unfold bulkV
  rw [List.flatMap_cons, sts_append, bulk_append, bulk_card]
theorem bulkV_nil : bulkV [] = 0 := rfl
theorem bulkV_app : ∀ a b : List (List Pr), bulkV (a ++ b) = bulkV a + bulkV b
  | [], b => by rw [List.nil_append, bulkV_nil, Nat.zero_add]
  | x :: a, b => by rw [List.cons_append, bulkV_cons, bulkV_cons, bulkV_app a b]; omega
theorem bulkV_small : ∀ {l : List (List Pr)} {N : Nat}, (∀ c ∈ l, costC c ≤ N) → bulkV l ≤ l.length * (40 + N)
  | [], N, _ => Nat.zero_le _
  | c :: l, N, h => by
    have h1 := bulkV_small (l := l) (N := N) fun d hd => h d (List.mem_cons_of_mem _ hd)
    have h2 := h c List.mem_cons_self
    have h3 := costL_le c
    rw [bulkV_cons, List.length_cons, Nat.succ_mul]
    omega
theorem costL_len : ∀ c : List Pr, c.length ≤ costL c
  | [] => Nat.zero_le _
  | p :: c => by have := costL_len c; rw [costL_cons, List.length_cons]; omega
theorem bulkV_len : ∀ l : List (List Pr), l.length ≤ bulkV l
  | [] => Nat.zero_le _
  | c :: l => by have := bulkV_len l; rw [bulkV_cons, List.length_cons]; omega
theorem costL_mem {c : List Pr} {p : Pr} (h : p ∈ c) : (lineT p).length ≤ costL c := by
  induction c with
  | nil => cases h
  | cons q c ih =>
    rw [costL_cons]
    rcases List.mem_cons.1 h with rfl | h
    · omega
    · have := ih h; omega
theorem bulkV_mem {l : List (List Pr)} {c : List Pr} (h : c ∈ l) : costL c ≤ bulkV l := by
  induction l with
  | nil => cases h
  | cons q l ih =>
    rw [bulkV_cons]
    rcases List.mem_cons.1 h with rfl | h
    · omega
    · have := ih h; omega
/-- cards of not too much are mild, few .. -/
theorem bulkV_mild {l : List (List Pr)} (h : bulkV l < 1000000) : ∀ c ∈ l, Mild c ∧ c.length ≤ 1000000000 := fun c hc => by
  have h1 := bulkV_mem hc
  have h2 := costL_len c
  exact ⟨fun p hp => by have := costL_mem hp; omega, by omega⟩
theorem bulkV_fews {l : List (List Pr)} (h : bulkV l < 1000000) : Fews l := fun c hc => by
  have h1 := bulkV_mild h c hc
  exact ⟨h1.2, fun p hp => Mild.few (h1.1 p hp)⟩
theorem bulkV_many {l : List (List Pr)} (h : bulkV l < 1000000) : l.length ≤ 1000000000 := by
  have := bulkV_len l
  omega

/-! ### what is read -/
theorem pval_lenV {r v m : List UInt8} (h : pvalL r = some (v, m)) : v.length + m.length ≤ r.length := by
  have key : ∀ (p : UInt8 → Bool) (q : List UInt8), (q.takeWhile p).length + (q.dropWhile p).length = q.length := fun p q => by
    rw [← List.length_append, List.takeWhile_append_dropWhile]
  unfold pvalL at h
  split at h
  · rename_i q
    have := key (· != 34) q
    split at h
    · cases h
    · rename_i x m' e
      rw [e] at this
      obtain ⟨rfl, rfl⟩ := Prod.mk.inj (Option.some.inj h)
      simp only [List.length_cons] at this ⊢
      omega
  · have := key free r
    obtain ⟨rfl, rfl⟩ := Prod.mk.inj (Option.some.inj h)
    omega
theorem par_len {r m : List UInt8} {a : Par} (h : parL r = some (a, m)) : a.1.length + 1 + a.2.length + m.length ≤ r.length := by
  have key : (r.takeWhile wc).length + (r.dropWhile wc).length = r.length := by
    rw [← List.length_append, List.takeWhile_append_dropWhile]
  unfold parL at h
  split at h
  · cases h
  · split at h
    · rename_i q e
      rw [e] at key
      obtain ⟨v, hv, e2⟩ := Option.map_eq_some_iff.1 h
      have := pval_lenV hv
      obtain ⟨rfl, rfl⟩ := Prod.mk.inj e2
      simp only [List.length_cons] at key
      unfold up
      simp only [List.length_map]
      omega
    · cases h
theorem pars_len : ∀ (f : Nat) (ps ps' : List Par) (l m : List UInt8), parsF f ps l = some (ps', m) → (ps'.flatMap parT).length + 2 * m.length ≤ (ps.flatMap parT).length + 2 * l.length
  | 0, ps, ps', l, m, h => by
    rw [parsF] at h
    obtain ⟨rfl, rfl⟩ := Prod.mk.inj (Option.some.inj h)
    exact Nat.le_refl _
  | f + 1, ps, ps', l, m, h => by
    unfold parsF at h
    split at h
    · rename_i r
      split at h
      · rename_i p hp
        have h1 := pars_len f _ _ _ _ h
        have h2 := par_len (a := p.1) (m := p.2) hp
        have h3 := parT_len p.1
        rw [List.flatMap_append, List.length_append] at h1
        have h4 : (List.flatMap parT [p.1]).length ≤ p.1.1.length + p.1.2.length + 4 := by
          rw [List.flatMap_cons, List.flatMap_nil, List.append_nil]
          exact h3
        rw [List.length_cons]
        omega
      · cases h
    · obtain ⟨rfl, rfl⟩ := Prod.mk.inj (Option.some.inj h)
      exact Nat.le_refl _
theorem head_len (l : List UInt8) : (groupT (headL l).1).length + (headL l).2.1.length + (headL l).2.2.length ≤ l.length := by
  have key : ∀ q : List UInt8, (q.takeWhile wc).length + (q.dropWhile wc).length = q.length := fun q => by
    rw [← List.length_append, List.takeWhile_append_dropWhile]
  have h1 := key l
  unfold headL
  split
  · rename_i c w m e1 e2
    rw [e1, e2] at h1
    have h2 := key m
    have h3 := groupT_len (c :: w)
    simp only [List.length_cons, up, List.length_map] at h1 h3 ⊢
    omega
  · simp only [up, List.length_map]
    have : (groupT []).length = 0 := rfl
    omega
theorem prop_len {l : List UInt8} {p : Pr} (h : propL l = some p) : (lineT p).length ≤ 2 * l.length := by
  have h1 := head_len l
  unfold propL at h
  split at h
  · cases h
  · split at h
    · rename_i ps v e
      have h2 := pars_len _ _ _ _ _ e
      injection h with h
      subst h
      rw [List.flatMap_nil, List.length_nil, List.length_cons] at h2
      unfold lineT
      simp only [List.length_append, List.length_cons]
      omega
    · cases h
/-- what a reader has -/
def mass (st : RSt) : Nat := bulkV st.1 + match st.2 with
  | none => 0
  | some (_, c) => 40 + costL c
theorem step_mass (st : RSt) (l : List UInt8) : mass (stepV st l).2 ≤ mass st + 2 * l.length + 43 := by
  obtain ⟨a, o⟩ := st
  unfold stepV
  rcases o with _ | ⟨f, c⟩
  · simp only
    split
    · simp only; omega
    · split
      · simp only; omega
      · simp only [mass, costL_nil]; omega
  · cases f
    · simp only
      split
      · simp only [mass, bulkV_app, bulkV_cons, bulkV_nil]; omega
      · split
        · simp only; omega
        · rename_i p hp
          have := prop_len hp
          split
          · simp only; omega
          · split
            · simp only; omega
            · simp only [mass, costL_app, costL_cons, costL_nil]; omega
    · simp only
      split
      · split
        · simp only [mass]; omega
        · simp only; omega
      · simp only; omega
theorem run_mass : ∀ (ls : List (List UInt8)) (n : Nat) (st : RSt), bulkV (runV n st ls).1 ≤ mass st + 2 * totL ls + 43 * ls.length
  | [], n, st => by
    unfold runV
    split
    · simp only [mass]; omega
    · simp only [bulkV_nil]; omega
  | l :: t, n, st => by
    have h1 := step_mass st l
    have h2 := run_mass t (n + 1) (stepV st l).2
    unfold runV
    rw [tot_cons, List.length_cons]
    split
    · omega
    · simp only [bulkV_nil]; omega
/-- what is read is not much -/
theorem read_mass (s : List UInt8) : bulkV (readV s).1 ≤ 45 * s.length := by
  unfold readV
  split
  · simp only [bulkV_nil]; omega
  · split
    · simp only [bulkV_nil]; omega
    · split
      · simp only [bulkV_nil]; omega
      · rename_i ls hu
        have h1 := unfold_tot hu
        have h2 := run_mass ls 0 ([], none)
        have h3 : mass ([], none) = 0 := rfl
        omega
end Go.Proofs.YtphopnfnjnieaaaGreatDoor
/-
  cardexplay.SmallProps: how much properties are.
-/
namespace Go.Proofs.YtphopnfnjnieaaaGreatDoor
open Go.RowKit Vc

set_option maxHeartbeats 8000000 in
set_option maxRecDepth 100000 in
theorem small_any (v : Value) (c : List Pr) (w : World) (hR : ReadP w v c) (hcost : costC c ≤ 1000000000) :
    Calls Tryz.prog 7 #[v] w fun e w' => e = .returned (.bool (decide (costC c ≤ 8000))) ∧ ∃ m, w' = w.drewN m := by
  obtain ⟨A, cap, rfl, hc⟩ := hR
  obtain ⟨n, hn⟩ : ∃ n, c.length = n := ⟨_, rfl⟩
  rw [hn] at hc ⊢
  have HC := Lib.hid hc
  have HN := Lib.hid hn
  have hnl : n ≤ 1000000000 := by have := costC_len c; omega
  have HCOST := Lib.hid hcost
  clear hc hn hcost
  go_enter Tryz.func7, Tryz.ntmps7
  go_wp2_with fail
  go_loopw [3, 4] (fun nv iv wr => ∃ (i : Nat) (z : Int) (m : Nat), nv = .int .i64 z ∧ iv = .int .i64 i ∧ i ≤ n ∧ Hid (z = ((costC (c.take i) : Nat) : Int)) ∧ wr = w.drewN m) (fun _ iv _ => n - (intOf iv).toNat)
  case atStart => exact ⟨0, 0, 0, rfl, rfl, Nat.zero_le _, by unfold Hid; rfl, rfl⟩
  case round =>
    obtain ⟨i, z, m, rfl, rfl, hi, HZ, rfl⟩ := hrel
    have hz0 : 0 ≤ z := by rw [HZ.out]; omega
    by_cases hlt : i < n
    · obtain ⟨ad, rfl, hlb, hcell⟩ := HC.out (by omega)
      obtain ⟨p, hp⟩ : ∃ p, c[i]? = some p := ⟨_, List.getElem?_eq_getElem (by rw [HN.out]; exact hlt)⟩
      obtain ⟨u, ⟨c0, c1, c2, c3⟩, hu⟩ := hcell i p hp
      obtain ⟨A2, cap2, rfl, hc2⟩ := hu
      have hct := costC_take hp
      have hcl := costC_le c (i + 1)
      have hcp : costP p = 5 + p.1.length + p.2.1.length + p.2.2.2.length + parN p.2.2.1 := rfl
      have hcc := HCOST.out
      have hpl := parN_len p.2.2.1
      obtain ⟨x0, e0⟩ : ∃ a, bts p.1 = a := ⟨_, rfl⟩
      obtain ⟨x1, e1⟩ : ∃ a, bts p.2.1 = a := ⟨_, rfl⟩
      obtain ⟨x3, e3⟩ : ∃ a, bts p.2.2.2 = a := ⟨_, rfl⟩
      have E0 : x0.size = p.1.length := by rw [← e0]; exact Lib.size_eq _
      have E1 : x1.size = p.2.1.length := by rw [← e1]; exact Lib.size_eq _
      have E3 : x3.size = p.2.2.2.length := by rw [← e3]; exact Lib.size_eq _
      rw [e0] at c0
      rw [e1] at c1
      rw [e3] at c3
      obtain ⟨k2, hk2⟩ : ∃ k, p.2.2.1.length = k := ⟨_, rfl⟩
      rw [hk2] at c2 hc2
      have hzz := HZ.out
      obtain ⟨y0, hy0⟩ : ∃ y : Int, (x0.size : Int) = y := ⟨_, rfl⟩
      obtain ⟨y1, hy1⟩ : ∃ y : Int, (x1.size : Int) = y := ⟨_, rfl⟩
      obtain ⟨y3, hy3⟩ : ∃ y : Int, (x3.size : Int) = y := ⟨_, rfl⟩
      have HC2 := Lib.hid hc2
      have HK2 := Lib.hid hk2
      have HSUM : Hid (z + 5 + y0 + y1 + y3 = ((costC (c.take i) + 5 + p.1.length + p.2.1.length + p.2.2.2.length : Nat) : Int)) := by unfold Hid; omega
      have hb0 : 0 ≤ z + 5 + y0 + y1 + y3 := by omega
      have hb1 : z + 5 + y0 + y1 + y3 + (parN p.2.2.1 : Nat) ≤ 1000000000 := by omega
      have hk3 : k2 ≤ 1000000000 := by omega
      have HNX : Hid (((costC (c.take (i + 1)) : Nat) : Int) = z + 5 + y0 + y1 + y3 + ((parN p.2.2.1 : Nat) : Int)) := by unfold Hid; omega
      have w1 : IntKind.i64.wrap (z + 5) = z + 5 := IntWalk.i64_in _ (by omega)
      have w2 : IntKind.i64.wrap (z + 5 + y0) = z + 5 + y0 := IntWalk.i64_in _ (by omega)
      have w3 : IntKind.i64.wrap (z + 5 + y0 + y1) = z + 5 + y0 + y1 := IntWalk.i64_in _ (by omega)
      have w4 : IntKind.i64.wrap (z + 5 + y0 + y1 + y3) = z + 5 + y0 + y1 + y3 := IntWalk.i64_in _ (by omega)
      have hltI : (i : Int) < (n : Int) := by omega
      clear hct hcl hcp hcc hpl e0 e1 e3 E0 E1 E3 hzz hc2 hk2 hcell hp HZ
      go_wp2_with fail
      go_quiet (fail)
      clear w1 w2 w3 w4
      go_wp2_with fail
      obtain ⟨B0, hB0⟩ : ∃ B0, z + 5 + y0 + y1 + y3 = B0 := ⟨_, rfl⟩
      rw [hB0] at hb0 hb1 HNX ⊢
      clear hB0 HSUM c0 c1 c3 hy0 hy1 hy3
      go_loopw [3, 5] (fun nv kv wr2 => ∃ (k : Nat) (z2 : Int) (m2 : Nat), nv = .int .i64 z2 ∧ kv = .int .i64 k ∧ k ≤ k2 ∧ Hid (z2 = B0 + ((parN (p.2.2.1.take k) : Nat) : Int)) ∧ wr2 = w.drewN m2) (fun _ kv _ => k2 - (intOf kv).toNat)
      case atStart => exact ⟨0, B0, _, rfl, rfl, Nat.zero_le _, by unfold Hid; rw [List.take_zero, parN_nil]; omega, by first | exact World.drewN_drewN _ _ _ | rfl⟩
      case round =>
        obtain ⟨k, z2, m2, rfl, rfl, hk, HZ2, rfl⟩ := hrel
        have hzz := HZ2.out
        have hple := parN_le p.2.2.1 k
        have hz20 : 0 ≤ z2 := by omega
        by_cases hlk : k < k2
        · obtain ⟨ad2, rfl, hlb2, hcell2⟩ := HC2.out (by omega)
          obtain ⟨a, ha⟩ : ∃ a, p.2.2.1[k]? = some a := ⟨_, List.getElem?_eq_getElem (by rw [HK2.out]; exact hlk)⟩
          obtain ⟨b0, b1⟩ := hcell2 k a ha
          have hct := parN_take ha
          have hcl := parN_le p.2.2.1 (k + 1)
          obtain ⟨n1, e1⟩ : ∃ a', bts a.1 = a' := ⟨_, rfl⟩
          obtain ⟨n2, e2⟩ : ∃ a', bts a.2 = a' := ⟨_, rfl⟩
          have E1 : n1.size = a.1.length := by rw [← e1]; exact Lib.size_eq _
          have E2 : n2.size = a.2.length := by rw [← e2]; exact Lib.size_eq _
          rw [e1] at b0
          rw [e2] at b1
          obtain ⟨q1, hq1⟩ : ∃ y : Int, (n1.size : Int) = y := ⟨_, rfl⟩
          obtain ⟨q2, hq2⟩ : ∃ y : Int, (n2.size : Int) = y := ⟨_, rfl⟩
          have HX : Hid (z2 + 5 + q1 + q2 = B0 + ((parN (p.2.2.1.take (k + 1)) : Nat) : Int)) := by unfold Hid; omega
          have w1 : IntKind.i64.wrap (z2 + 5) = z2 + 5 := IntWalk.i64_in _ (by omega)
          have w2 : IntKind.i64.wrap (z2 + 5 + q1) = z2 + 5 + q1 := IntWalk.i64_in _ (by omega)
          have w3 : IntKind.i64.wrap (z2 + 5 + q1 + q2) = z2 + 5 + q1 + q2 := IntWalk.i64_in _ (by omega)
          have hlkI : (k : Int) < (k2 : Int) := by omega
          clear hct hcl e1 e2 E1 E2 hzz hple hcell2 ha HZ2 hz20
          go_wp2_with fail
          go_quiet (fail)
          clear w1 w2 w3
          go_wp2_with fail
          go_roundw
          case rel => exact ⟨k + 1, _, _, rfl, by go_num, by omega, HX, by first | exact World.drewN_drewN _ _ _ | rfl⟩
          case measure => simp [intOf]; omega
        · have HX : Hid (z2 = ((costC (c.take (i + 1)) : Nat) : Int)) := by
            have := HNX.out
            rw [List.take_of_length_le (by rw [HK2.out]; omega)] at hzz
            unfold Hid
            omega
          clear hzz hple HZ2
          go_wp2_with fail
          go_roundw
          case rel => exact ⟨i + 1, z2, m2, rfl, by go_num, by omega, HX, rfl⟩
          case measure => simp [intOf]; omega
    · have hzz := HZ.out
      rw [List.take_of_length_le (by rw [HN.out]; omega)] at hzz
      have HE : Hid (decide (z ≤ 8000) = decide (costC c ≤ 8000)) := by
        unfold Hid
        rw [hzz, decide_eq_decide]
        omega
      clear hzz HZ
      go_wp2_with fail
      go_ret
      exact ⟨by rw [← HE.out]; rfl, _, rfl⟩
end Go.Proofs.YtphopnfnjnieaaaGreatDoor
