/-
  cardexref08: depth, CanonRight.
-/
import Derived.Test.YtbkfmbkamocllaaDoorRnA
import Derived.Test.YtbkfmbkamocllaaDoorCnS
namespace Go.Proofs.YtbkfmbkamocllaaDoor
open Go.RowKit Tk Tr Cn

theorem up_len (ns : List Nd) (k : Int) : (up ns k).length ≤ k.toNat + 1 := by
  have : ∀ (f : Nat) (k : Int), (chain ns f k).length ≤ f := fun f => by
    induction f with
    | zero => intro k; exact Nat.le_refl _
    | succ f ih =>
      intro k
      unfold chain
      split
      · rw [List.length_cons]
        have := ih (par ns k.toNat)
        omega
      · exact Nat.zero_le _
  exact this _ _
/-- How many are open with a node that stands in P, if that is open still. -/
def depthV (ns : List Nd) (i P : Nat) : Nat := if P ∈ up ns ((i : Int) - 1) then (up ns (P : Int)).length + 1 else 0
set_option maxHeartbeats 4000000 in
set_option maxRecDepth 100000 in
theorem rdepth_any (v : Value) (ns : List Nd) (i P : Nat) (w : World) (hv : ReadN w v ns) (hl : ns.length ≤ 1000000) (hi : i < ns.length) (hlow : LowB ns i) (hp : par ns i = (P : Int)) (hPi : P < i) :
    Calls Tryd.prog 20 #[v, .int .i64 i] w fun e w' => e = .returned (.int .i64 (depthV ns i P : Nat)) ∧ w' = w := by
  obtain ⟨A, cap, rfl, hx⟩ := hv
  obtain ⟨ad, rfl, hlb, hc⟩ := hx (by omega)
  have HX : Hid (∀ k : Nat, k < ns.length → w.cell? (ad.add (k * 6)) = some (.int .i64 (par ns k))) := fun k hk => by
    obtain ⟨x, hxx⟩ : ∃ x, ns[k]? = some x := ⟨_, List.getElem?_eq_getElem hk⟩
    obtain ⟨u, hat, _⟩ := hc k x hxx
    rw [par_some hxx]
    exact hat.1
  have HP := Lib.hid hp
  have HLOW := Lib.hid hlow
  have HD : Hid (depthV ns i P = if P ∈ up ns ((i : Int) - 1) then (up ns (P : Int)).length + 1 else 0) := rfl
  have HUL := Lib.hid (up_len ns)
  obtain ⟨n, hn⟩ : ∃ n, ns.length = n := ⟨_, rfl⟩
  rw [hn] at hl hi HX ⊢
  have cI := HX.out i hi
  rw [hp] at cI
  clear hx hc hn hp hlow
  go_enter Tryd.func20, Tryd.ntmps20
  go_wp2_with fail
  go_loop [6, 7] (fun ov kv => ∃ (k : Int) (o : Bool), k < i ∧ kv = .int .i64 k ∧ ov = .bool o ∧ Hid ((o = false ∧ (P ∈ up ns ((i : Int) - 1) ↔ P ∈ up ns k)) ∨ (o = true ∧ P ∈ up ns ((i : Int) - 1)))) (fun _ kv => (intOf kv + 1).toNat)
  case atStart => exact ⟨_, _, by omega, rfl, rfl, .inl ⟨rfl, Iff.rfl⟩⟩
  case round =>
    obtain ⟨k, o, hki, rfl, rfl, hrel2⟩ := hrel
    by_cases hk0 : 0 ≤ k
    · obtain ⟨K, rfl⟩ : ∃ K : Nat, k = K := ⟨k.toNat, by omega⟩
      have g0 : decide ((K : Int) ≥ 0) = true := decide_eq_true (by omega)
      cases o with
      | false =>
        have hiff : P ∈ up ns ((i : Int) - 1) ↔ P ∈ up ns (K : Int) := by
          rcases hrel2.out with ⟨_, h⟩ | ⟨h, _⟩
          · exact h
          · cases h
        have cK := HX.out K (by omega)
        have hpl := HLOW.out K (by omega)
        have hupK := up_posB HLOW.out (show K < i by omega)
        obtain ⟨q, hq⟩ : ∃ q, par ns K = q := ⟨_, rfl⟩
        rw [hq] at cK hpl hupK
        by_cases hKP : K = P
        · have gK : ((K : Int) == (P : Int)) = true := by rw [hKP]; simp
          have hm2 : Hid ((true = false ∧ (P ∈ up ns ((i : Int) - 1) ↔ P ∈ up ns q)) ∨ (true = true ∧ P ∈ up ns ((i : Int) - 1))) := .inr ⟨rfl, hiff.2 (by rw [hupK, hKP]; exact List.mem_cons_self)⟩
          clear hiff hupK hq hk0 hKP
          go_wp2_with fail
          go_round
          case rel => exact ⟨q, true, by omega, rfl, rfl, hm2⟩
          case measure => simp [intOf]; omega
        · have gK : ((K : Int) == (P : Int)) = false := by simp; omega
          have hm2 : Hid ((false = false ∧ (P ∈ up ns ((i : Int) - 1) ↔ P ∈ up ns q)) ∨ (false = true ∧ P ∈ up ns ((i : Int) - 1))) := .inl ⟨rfl, by
            rw [hiff, hupK, List.mem_cons]
            constructor
            · rintro (h | h)
              · exact absurd h.symm hKP
              · exact h
            · exact .inr⟩
          clear hiff hupK hq hk0 hKP
          go_wp2_with fail
          go_round
          case rel => exact ⟨q, false, by omega, rfl, rfl, hm2⟩
          case measure => simp [intOf]; omega
      | true =>
        have hmem : Hid (P ∈ up ns ((i : Int) - 1)) := by
          rcases hrel2.out with ⟨h, _⟩ | ⟨_, h⟩
          · cases h
          · exact h
        clear hk0
        have HR : Hid (depthV ns i P = (up ns (P : Int)).length + 1) := by unfold Hid; rw [HD.out, if_pos hmem.out]
        go_wp2_with fail
        go_loop [8, 9] (fun nv kv => ∃ (k : Int) (m : Nat), k < i ∧ kv = .int .i64 k ∧ nv = .int .i64 m ∧ Hid (m + (up ns k).length = 1 + (up ns (P : Int)).length) ∧ m ≤ 1000002) (fun _ kv => (intOf kv + 1).toNat)
        case atStart => exact ⟨_, 1, by omega, rfl, rfl, rfl, by omega⟩
        case round =>
          obtain ⟨k2, m, hk2, rfl, rfl, hm, hmb⟩ := hrel
          by_cases hk0 : 0 ≤ k2
          · obtain ⟨K2, rfl⟩ : ∃ K : Nat, k2 = K := ⟨k2.toNat, by omega⟩
            have cK := HX.out K2 (by omega)
            have hpl := HLOW.out K2 (by omega)
            have hm2 : Hid (m + 1 + (up ns (par ns K2)).length = 1 + (up ns (P : Int)).length) := by
              have := hm.out
              rw [up_posB HLOW.out (show K2 < i by omega), List.length_cons] at this
              unfold Hid
              omega
            have hmb2 : m + 1 ≤ 1000002 := by
              have h1 := hm2.out
              have h2 := HUL.out (P : Int)
              omega
            have g0 : decide ((K2 : Int) ≥ 0) = true := decide_eq_true (by omega)
            obtain ⟨q, hq⟩ : ∃ q, par ns K2 = q := ⟨_, rfl⟩
            rw [hq] at cK hpl hm2
            clear hq hk0
            go_wp2_with fail
            go_round
            case rel => exact ⟨q, m + 1, by omega, rfl, by go_num, hm2, hmb2⟩
            case measure => simp [intOf]; omega
          · have g0 : decide (k2 ≥ 0) = false := decide_eq_false (by omega)
            have hm3 : Hid (((depthV ns i P : Nat) : Int) = (m : Int)) := by
              have := hm.out
              rw [up_neg (by omega)] at this
              unfold Hid
              rw [HR.out]
              simp at this
              omega
            go_wp2_with fail
            go_ret
            exact ⟨by rw [hm3.out]; rfl, rfl⟩
    · have g0 : decide (k ≥ 0) = false := decide_eq_false (by omega)
      cases o with
      | false =>
        have HR : Hid (((depthV ns i P : Nat) : Int) = 0) := by
          unfold Hid
          rw [HD.out, if_neg]
          · rfl
          · rcases hrel2.out with ⟨_, h⟩ | ⟨h, _⟩
            · rw [h, up_neg (by omega)]
              exact List.not_mem_nil
            · cases h
        clear hk0
        go_wp2_with fail
        go_ret
        exact ⟨by rw [HR.out]; rfl, rfl⟩
      | true =>
        have hmem : Hid (P ∈ up ns ((i : Int) - 1)) := by
          rcases hrel2.out with ⟨h, _⟩ | ⟨_, h⟩
          · cases h
          · exact h
        clear hk0
        have HR : Hid (depthV ns i P = (up ns (P : Int)).length + 1) := by unfold Hid; rw [HD.out, if_pos hmem.out]
        go_wp2_with fail
        go_loop [8, 9] (fun nv kv => ∃ (k : Int) (m : Nat), k < i ∧ kv = .int .i64 k ∧ nv = .int .i64 m ∧ Hid (m + (up ns k).length = 1 + (up ns (P : Int)).length) ∧ m ≤ 1000002) (fun _ kv => (intOf kv + 1).toNat)
        case atStart => exact ⟨_, 1, by omega, rfl, rfl, rfl, by omega⟩
        case round =>
          obtain ⟨k2, m, hk2, rfl, rfl, hm, hmb⟩ := hrel
          by_cases hk0 : 0 ≤ k2
          · obtain ⟨K2, rfl⟩ : ∃ K : Nat, k2 = K := ⟨k2.toNat, by omega⟩
            have cK := HX.out K2 (by omega)
            have hpl := HLOW.out K2 (by omega)
            have hm2 : Hid (m + 1 + (up ns (par ns K2)).length = 1 + (up ns (P : Int)).length) := by
              have := hm.out
              rw [up_posB HLOW.out (show K2 < i by omega), List.length_cons] at this
              unfold Hid
              omega
            have hmb2 : m + 1 ≤ 1000002 := by
              have h1 := hm2.out
              have h2 := HUL.out (P : Int)
              omega
            have g0 : decide ((K2 : Int) ≥ 0) = true := decide_eq_true (by omega)
            obtain ⟨q, hq⟩ : ∃ q, par ns K2 = q := ⟨_, rfl⟩
            rw [hq] at cK hpl hm2
            clear hq hk0
            go_wp2_with fail
            go_round
            case rel => exact ⟨q, m + 1, by omega, rfl, by go_num, hm2, hmb2⟩
            case measure => simp [intOf]; omega
          · have g0 : decide (k2 ≥ 0) = false := decide_eq_false (by omega)
            have hm3 : Hid (((depthV ns i P : Nat) : Int) = (m : Int)) := by
              have := hm.out
              rw [up_neg (by omega)] at this
              unfold Hid
              rw [HR.out]
              simp at this
              omega
            go_wp2_with fail
            go_ret
            exact ⟨by rw [hm3.out]; rfl, rfl⟩
/-- What is asked of node i, as the document asks it. -/
def askedN (ns : List Nd) (i : Nat) : Prop := (∀ x, ns[i]? = some x → goodN x = true) ∧ (0 < i → Stands ns i)
theorem asked_all {ns : List Nd} (h0 : 0 < ns.length) (h1 : ns.length ≤ 1000) (hp : par ns 0 = -1) (h : ∀ i, i < ns.length → askedN ns i) : rightB ns = true := by
  rw [right_iff]
  refine ⟨List.length_pos_iff.1 h0, h1, hp, fun x hx => ?_, fun i hi hl => (h i hl).2 hi⟩
  obtain ⟨i, hi⟩ := List.mem_iff_getElem?.1 hx
  have := (h i (List.getElem?_eq_some_iff.1 hi).1).1 x hi
  unfold goodN at this
  simp only [Bool.and_eq_true] at this
  exact ⟨this.1.1.1, this.1.1.2, this.1.2, apart_iff.1 this.2⟩
theorem asked_not {ns : List Nd} {i : Nat} (hi : i < ns.length) (h : ¬ askedN ns i) : rightB ns = false := by
  rw [Bool.eq_false_iff]
  intro hr
  rw [right_iff] at hr
  refine h ⟨fun x hx => ?_, fun h0 => hr.stands i h0 hi⟩
  obtain ⟨a, b, c, d⟩ := hr.each x (List.mem_of_getElem? hx)
  unfold goodN
  simp only [Bool.and_eq_true]
  exact ⟨⟨⟨a, b⟩, c⟩, apart_iff.2 d⟩
theorem asked_low {ns : List Nd} {i : Nat} (hp : par ns 0 = -1) (h : ∀ j, j < i → askedN ns j) : LowB ns i := fun j hj => by
  rcases Nat.eq_zero_or_pos j with rfl | h0
  · rw [hp]; decide
  · obtain ⟨p, e, hpj, _⟩ := (h j hj).2 h0
    rw [e]; omega
set_option maxHeartbeats 8000000 in
set_option maxRecDepth 100000 in
theorem canonRight_any (v : Value) (ns : List Nd) (w : World) (hv : ReadN w v ns) (hl : ns.length ≤ 1000000) (hS : (ns.map ownL).sum ≤ 1000000000) :
    Calls Tryd.prog 10 #[v] w fun e w' => e = .returned (.bool (rightB ns)) ∧ Below w.heap.size w w' := by
  have HDD := Lib.hid (fun (i P : Nat) (W : World) (h : Below w.heap.size w W) h1 h2 h3 h4 => rdepth_any v ns i P W (hv.below h) hl h1 h2 h3 h4)
  obtain ⟨A, cap, rfl, hx⟩ := hv
  have HX := Lib.hid hx
  have HAA := Lib.hid (fun h0 h1 hp h => asked_all (ns := ns) h0 h1 hp h)
  have HAN := Lib.hid (fun i h1 h2 => asked_not (ns := ns) (i := i) h1 h2)
  have HAL := Lib.hid (fun i hp h => asked_low (ns := ns) (i := i) hp h)
  have HSS := Lib.hid hS
  have HN0 : Hid (¬ (0 < ns.length ∧ ns.length ≤ 1000 ∧ par ns 0 = -1) → rightB ns = false) := fun h => by
    rw [Bool.eq_false_iff]
    intro hr
    rw [right_iff] at hr
    exact h ⟨hr.pos, hr.many, hr.first⟩
  have HP0 : Hid (∀ x, ns[0]? = some x → par ns 0 = x.1) := fun x hx => par_some hx
  obtain ⟨n, hn⟩ : ∃ n, ns.length = n := ⟨_, rfl⟩
  have HN := Lib.hid hn
  rw [hn] at hl HX HAA HAN HN0 HDD ⊢
  clear hx hn hS
  by_cases h0 : n = 0
  · subst h0
    have HR : Hid (rightB ns = false) := HN0.out (by omega)
    go_enter Tryd.func10, Tryd.ntmps10
    go_wp2_with fail
    go_ret
    exact ⟨by rw [HR.out]; rfl, Below.refl _ _⟩
  · have g0 : ((n : Int) == 0) = false := by simp; omega
    obtain ⟨ad, rfl, hlb, hc⟩ := HX.out (by omega)
    by_cases h1 : n ≤ 1000
    · have g1 : decide ((n : Int) > 1000) = false := decide_eq_false (by omega)
      obtain ⟨x0, hx0⟩ : ∃ x, ns[0]? = some x := ⟨_, List.getElem?_eq_getElem (by have := HN.out; omega)⟩
      obtain ⟨u0, ⟨z0, -⟩, -⟩ := hc 0 x0 hx0
      have hpz := HP0.out x0 hx0
      rw [Nat.zero_mul, show ad.add 0 = ad by unfold Addr.add; rw [if_pos rfl]] at z0
      obtain ⟨q0, hq0⟩ : ∃ q, x0.1 = q := ⟨_, rfl⟩
      rw [hq0] at z0 hpz
      have hn0 : (0 : Int) < (n : Int) := by omega
      clear hx0 hq0
      by_cases hm : q0 = -1
      · subst hm
        have HPZ := Lib.hid hpz
        clear hpz hc
        go_enter Tryd.func10, Tryd.ntmps10
        go_wp2_with fail
        clear z0
        go_loopw [3] (fun c wr => ∃ (i : Nat), i ≤ n ∧ c = .int .i64 i ∧ Hid (∀ j, j < i → askedN ns j) ∧ Hid (Below w.heap.size w wr)) (fun c _ => n - (intOf c).toNat)
        case atStart => exact ⟨0, Nat.zero_le _, rfl, Lib.hid (fun j h => absurd h (Nat.not_lt_zero _)), Below.refl _ _⟩
        case round =>
          obtain ⟨i, hi, rfl, hok, hb⟩ := hrel
          by_cases hlt : i < n
          · obtain ⟨ad', ead, hlb', hc⟩ := HX.out (by omega)
            obtain rfl : ad = ad' := Option.some.inj ead
            obtain ⟨x, hxx⟩ : ∃ x, ns[i]? = some x := ⟨_, List.getElem?_eq_getElem (by have := HN.out; omega)⟩
            obtain ⟨u, hat, hua⟩ := hc i x hxx
            have HPX : Hid (par ns i = x.1) := par_some hxx
            have hown : 20 + 2 * x.2.2.1.length + 6 * x.2.2.2.1.length + 6 * x.2.2.2.2.2.length + ownA x.2.2.2.2.1 ≤ 1000000000 := Nat.le_trans (own_le (List.mem_of_getElem? hxx)) HSS.out
            obtain ⟨k0, k1, k2, k3, k4, k5⟩ := hat.of (w' := wr) (hb.out.block _ (by rw [addBlock]; exact hlb))
            have HG : Hid (goodN x = (nameT x.2.2.1 && Tx.valid x.2.2.2.2.2 && Tx.valid x.2.2.2.1 && apartB x.2.2.2.2.1)) := rfl
            have HNG : Hid (goodN x = false → rightB ns = false) := fun h => HAN.out i hlt (fun ha => by have := ha.1 x hxx; rw [h] at this; cases this)
            have HNS : Hid (0 < i → ¬ Stands ns i → rightB ns = false) := fun h0 h => HAN.out i hlt (fun ha => h (ha.2 h0))
            have HYS : Hid (goodN x = true → (0 < i → Stands ns i) → ∀ j, j < i + 1 → askedN ns j) := fun h1 h2 j hj => by
              rcases Nat.lt_or_ge j i with h | h
              · exact hok.out j h
              · obtain rfl : j = i := by omega
                exact ⟨fun y hy => by rw [hxx] at hy; cases hy; exact h1, h2⟩
            have HLOW : Hid (LowB ns i) := HAL.out i HPZ.out hok.out
            obtain ⟨Y, hY⟩ : ∃ Y, wr.heap.size = Y := ⟨_, rfl⟩
            obtain ⟨W4, hW4⟩ : ∃ W, wr.alloc (.cells #[.int .i64 x.1, .int .i64 x.2.1, .string (bts x.2.2.1), .string (bts x.2.2.2.1), u, .string (bts x.2.2.2.2.2)] 32) = W := ⟨_, rfl⟩
            have hw4 : Below wr.heap.size wr W4 := by rw [← hW4]; exact (Below.refl _ _).alloc (Nat.le_refl _) _
            have B4 : Hid (Below w.heap.size w W4) := hb.out.trans (hw4.mono hb.out.size)
            have hk : Bk W4 Y 32 #[.int .i64 x.1, .int .i64 x.2.1, .string (bts x.2.2.1), .string (bts x.2.2.2.1), u, .string (bts x.2.2.2.2.2)] := by rw [← hW4, ← hY]; exact Bk.new _ _ _
            have y0 : W4.cell? ⟨Y, 0, none⟩ = some (.int .i64 x.1) := hk.cell 0
            have y2 : W4.cell? ⟨Y, 2, none⟩ = some (.string (bts x.2.2.1)) := hk.cell 2
            have y3 : W4.cell? ⟨Y, 3, none⟩ = some (.string (bts x.2.2.2.1)) := hk.cell 3
            have y4 : W4.cell? ⟨Y, 4, none⟩ = some u := hk.cell 4
            have y5 : W4.cell? ⟨Y, 5, none⟩ = some (.string (bts x.2.2.2.2.2)) := hk.cell 5
            have HYL : Hid (Y < W4.heap.size) := hk.lt
            have HL := Lib.hid (fun (W : World) (h : Below W4.heap.size W4 W) i => h.cell (p := ⟨Y, i, none⟩) HYL.out)
            have HNA := Lib.hid (fun W => rn_Name_any (bts x.2.2.1) W (by rw [bts_size]; omega))
            have HV5 := Lib.hid (fun W => rvalid_any (bts x.2.2.2.2.2) W (by rw [bts_size]; omega))
            have HV3 := Lib.hid (fun W => rvalid_any (bts x.2.2.2.1) W (by rw [bts_size]; omega))
            have HRA := Lib.hid (rn_rightAttrs_any u x.2.2.2.2.1 W4 ((hua.below hb.out).below hw4) (by have := ownA_count x.2.2.2.2.1; omega) (fun a ha => by have := ownA_mem ha; omega))
            rw [show (bts x.2.2.1).data.toList = x.2.2.1 from rfl] at HNA
            rw [show (bts x.2.2.2.1).data.toList = x.2.2.2.1 from rfl] at HV3
            rw [show (bts x.2.2.2.2.2).data.toList = x.2.2.2.2.2 from rfl] at HV5
            have HATP : Hid (∀ (P : Nat) (y : Nd), ns[P]? = some y → W4.cell? ⟨(ad.add (P * 6)).block, (ad.add (P * 6)).off + 5, none⟩ = some (.string (bts y.2.2.2.2.2))) := fun P y hy => by
              obtain ⟨_, hy2, _⟩ := hc P y hy
              exact (hy2.of (w' := W4) (B4.out.block _ (by rw [addBlock]; exact hlb))).2.2.2.2.2
            have HLPB : Hid (∀ (P : Nat) (W : World), Below W4.heap.size W4 W → W.cell? ⟨(ad.add (P * 6)).block, (ad.add (P * 6)).off + 5, none⟩ = W4.cell? ⟨(ad.add (P * 6)).block, (ad.add (P * 6)).off + 5, none⟩) := fun P W h => h.cell (by show (ad.add (P * 6)).block < _; rw [addBlock]; exact Nat.lt_of_lt_of_le hlb B4.out.size)
            obtain ⟨UA, ucap, rfl, -⟩ := hua
            obtain ⟨un, hun⟩ : ∃ un, x.2.2.2.2.1.length = un := ⟨_, rfl⟩
            rw [hun] at k4 y4 HRA hW4
            obtain ⟨a0, h0'⟩ : ∃ a : Int, x.1 = a := ⟨_, rfl⟩
            obtain ⟨a1, h1'⟩ : ∃ a : Int, x.2.1 = a := ⟨_, rfl⟩
            obtain ⟨a2, h2'⟩ : ∃ a, bts x.2.2.1 = a := ⟨_, rfl⟩
            obtain ⟨a3, h3'⟩ : ∃ a, bts x.2.2.2.1 = a := ⟨_, rfl⟩
            obtain ⟨a5, h5'⟩ : ∃ a, bts x.2.2.2.2.2 = a := ⟨_, rfl⟩
            rw [h0'] at k0 y0 HPX hW4
            rw [h1'] at k1 hW4
            rw [h2'] at k2 y2 HNA hW4
            rw [h3'] at k3 y3 HV3 hW4
            rw [h5'] at k5 y5 HV5 hW4
            have Y0 := Lib.hid y0
            have HW4 := Lib.hid hW4
            have HYE := Lib.hid hY
            clear hc hxx hat hown hun h0' h1' h2' h3' h5' hY hW4 hw4 hk hb hok
            go_upto_region 7 with fail
            rw [HW4.out, HYE.out]
            clear k0 k1 k2 k3 k4 k5
            cases c2 : nameT x.2.2.1 with
            | false =>
              rw [c2] at HNA
              have HR : Hid (rightB ns = false) := HNG.out (by rw [HG.out, c2]; rfl)
              clear c2
              go_wp2_with (go_at_call 18; refine (HNA.out _).mono ?_; rintro e w6 ⟨rfl, rfl⟩)
              go_ret
              exact ⟨by rw [HR.out]; rfl, B4.out⟩
            | true =>
              rw [c2] at HNA
              cases c5 : Tx.valid x.2.2.2.2.2 with
              | false =>
                rw [c5] at HV5
                have HR : Hid (rightB ns = false) := HNG.out (by rw [HG.out, c5]; simp)
                clear c2 c5
                go_wp2_with (first | (go_at_call 18; refine (HNA.out _).mono ?_; rintro e w6 ⟨rfl, rfl⟩) | (go_at_call 11; with_reducible refine (HV5.out _).mono ?_; rintro e w7 ⟨rfl, rfl⟩))
                go_ret
                exact ⟨by rw [HR.out]; rfl, B4.out⟩
              | true =>
                rw [c5] at HV5
                cases c3 : Tx.valid x.2.2.2.1 with
                | false =>
                  rw [c3] at HV3
                  have HR : Hid (rightB ns = false) := HNG.out (by rw [HG.out, c3]; simp)
                  clear c2 c5 c3
                  go_wp2_with (first | (go_at_call 18; refine (HNA.out _).mono ?_; rintro e w6 ⟨rfl, rfl⟩) | (go_at_call 11; with_reducible refine (HV5.out _).mono ?_; rintro e w7 ⟨rfl, rfl⟩) | (go_at_call 11; with_reducible refine (HV3.out _).mono ?_; rintro e w7 ⟨rfl, rfl⟩))
                  go_ret
                  exact ⟨by rw [HR.out]; rfl, B4.out⟩
                | true =>
                  rw [c3] at HV3
                  cases c4 : apartB x.2.2.2.2.1 with
                  | false =>
                    rw [c4] at HRA
                    have HR : Hid (rightB ns = false) := HNG.out (by rw [HG.out, c4]; simp)
                    clear c2 c5 c3 c4
                    go_wp2_with (first | (go_at_call 18; refine (HNA.out _).mono ?_; rintro e w6 ⟨rfl, rfl⟩) | (go_at_call 11; with_reducible refine (HV5.out _).mono ?_; rintro e w7 ⟨rfl, rfl⟩) | (go_at_call 11; with_reducible refine (HV3.out _).mono ?_; rintro e w7 ⟨rfl, rfl⟩) | (go_at_call 19; refine HRA.out.mono ?_; rintro e w8 ⟨rfl, b8⟩; have r0 := (HL.out _ b8 0).trans Y0.out))
                    go_ret
                    exact ⟨by rw [HR.out]; rfl, B4.out.trans (b8.mono B4.out.size)⟩
                  | true =>
                    rw [c4] at HRA
                    have HGT : Hid (goodN x = true) := by unfold Hid; rw [HG.out, c2, c5, c3, c4]; rfl
                    clear c2 c5 c3 c4
                    rcases Nat.eq_zero_or_pos i with h0i | h0i
                    · subst h0i
                      have HK := Lib.hid (HYS.out HGT.out (fun h => absurd h (Nat.lt_irrefl _)))
                      go_wp2_with (first | (go_at_call 18; refine (HNA.out _).mono ?_; rintro e w6 ⟨rfl, rfl⟩) | (go_at_call 11; with_reducible refine (HV5.out _).mono ?_; rintro e w7 ⟨rfl, rfl⟩) | (go_at_call 11; with_reducible refine (HV3.out _).mono ?_; rintro e w7 ⟨rfl, rfl⟩) | (go_at_call 19; refine HRA.out.mono ?_; rintro e w8 ⟨rfl, b8⟩; have r0 := (HL.out _ b8 0).trans Y0.out))
                      have B8 : Hid (Below w.heap.size w w8) := B4.out.trans (b8.mono B4.out.size)
                      go_roundw
                      case rel => exact ⟨1, by omega, by go_num, HK, B8⟩
                      case measure => simp [intOf]; omega
                    · have gi : decide ((i : Int) > 0) = true := decide_eq_true (by omega)
                      by_cases hneg : a0 < 0
                      · have gn : decide (a0 < 0) = true := decide_eq_true hneg
                        have HR : Hid (rightB ns = false) := HNS.out h0i (fun ⟨p, e, _⟩ => by rw [HPX.out] at e; omega)
                        clear hneg
                        go_wp2_with (first | (go_at_call 18; refine (HNA.out _).mono ?_; rintro e w6 ⟨rfl, rfl⟩) | (go_at_call 11; with_reducible refine (HV5.out _).mono ?_; rintro e w7 ⟨rfl, rfl⟩) | (go_at_call 11; with_reducible refine (HV3.out _).mono ?_; rintro e w7 ⟨rfl, rfl⟩) | (go_at_call 19; refine HRA.out.mono ?_; rintro e w8 ⟨rfl, b8⟩; have r0 := (HL.out _ b8 0).trans Y0.out))
                        go_ret
                        exact ⟨by rw [HR.out]; rfl, B4.out.trans (b8.mono B4.out.size)⟩
                      · have gn : decide (a0 < 0) = false := decide_eq_false hneg
                        obtain ⟨P, rfl⟩ : ∃ P : Nat, a0 = P := ⟨a0.toNat, by omega⟩
                        by_cases hge : (i : Int) ≤ (P : Int)
                        · have gg : decide ((P : Int) ≥ (i : Int)) = true := decide_eq_true hge
                          have hgn : i ≤ P := by omega
                          have HR : Hid (rightB ns = false) := HNS.out h0i (fun ⟨p, e, hp, _⟩ => by rw [HPX.out] at e; omega)
                          clear hneg hge
                          go_wp2_with (first | (go_at_call 18; refine (HNA.out _).mono ?_; rintro e w6 ⟨rfl, rfl⟩) | (go_at_call 11; with_reducible refine (HV5.out _).mono ?_; rintro e w7 ⟨rfl, rfl⟩) | (go_at_call 11; with_reducible refine (HV3.out _).mono ?_; rintro e w7 ⟨rfl, rfl⟩) | (go_at_call 19; refine HRA.out.mono ?_; rintro e w8 ⟨rfl, b8⟩; have r0 := (HL.out _ b8 0).trans Y0.out))
                          go_ret
                          exact ⟨by rw [HR.out]; rfl, B4.out.trans (b8.mono B4.out.size)⟩
                        · have gg : decide ((P : Int) ≥ (i : Int)) = false := decide_eq_false hge
                          have hgn : ¬ i ≤ P := by omega
                          obtain ⟨y, hy⟩ : ∃ y, ns[P]? = some y := ⟨_, List.getElem?_eq_getElem (by have := HN.out; omega)⟩
                          have EP5 := Lib.hid (HATP.out P y hy)
                          have HLP := Lib.hid (HLPB.out P)
                          have HTX : Hid (textAt ns P = y.2.2.2.2.2) := text_some hy
                          have hte := bts_empty y.2.2.2.2.2
                          have hPn : (P : Int) < (n : Int) := by omega
                          obtain ⟨t5, ht5⟩ : ∃ a, bts y.2.2.2.2.2 = a := ⟨_, rfl⟩
                          rw [ht5] at EP5 hte
                          clear hy ht5
                          by_cases hy5 : y.2.2.2.2.2 = []
                          · have ge : t5.toList.isEmpty = true := by rw [hte]; exact decide_eq_true hy5
                            have HDE := Lib.hid (fun (W : World) (h : Below w.heap.size w W) => HDD.out i P W h hlt HLOW.out HPX.out (by omega))
                            have HTE : Hid (textAt ns P = []) := HTX.out.trans hy5
                            clear hte hy5
                            by_cases hmem : P ∈ up ns ((i : Int) - 1)
                            · have hdv : depthV ns i P = (up ns (P : Int)).length + 1 := by unfold depthV; rw [if_pos hmem]
                              obtain ⟨D, hD⟩ : ∃ D, (up ns (P : Int)).length = D := ⟨_, rfl⟩
                              obtain ⟨E, hE⟩ : ∃ E, D + 1 = E := ⟨_, rfl⟩
                              rw [hdv, hD, hE] at HDE
                              have hDb : E ≤ 1000003 := by rw [← hE, ← hD]; have := up_len ns (P : Int); omega
                              have gz : ((E : Int) == 0) = false := by simp; omega
                              by_cases hd12 : D + 1 ≤ 12
                              · have gd : decide ((E : Int) > 12) = false := decide_eq_false (by omega)
                                have HK := Lib.hid (HYS.out HGT.out (fun _ => ⟨P, HPX.out, by omega, hmem, HTE.out, by rw [hD]; exact hd12⟩))
                                clear hmem hdv hD hE hd12
                                go_wp2_with (first | (go_at_call 18; refine (HNA.out _).mono ?_; rintro e w6 ⟨rfl, rfl⟩) | (go_at_call 11; with_reducible refine (HV5.out _).mono ?_; rintro e w7 ⟨rfl, rfl⟩) | (go_at_call 11; with_reducible refine (HV3.out _).mono ?_; rintro e w7 ⟨rfl, rfl⟩) | (go_at_call 19; refine HRA.out.mono ?_; rintro e w8 ⟨rfl, b8⟩; have r0 := (HL.out _ b8 0).trans Y0.out; have rp5 := (HLP.out _ b8).trans EP5.out) | (go_at_call 20; refine (HDE.out _ (B4.out.trans (b8.mono B4.out.size))).mono ?_; rintro e w9 ⟨rfl, rfl⟩))
                                have B8 : Hid (Below w.heap.size w w9) := B4.out.trans (b8.mono B4.out.size)
                                go_roundw
                                case rel => exact ⟨i + 1, by omega, by go_num, HK, B8⟩
                                case measure => simp [intOf]; omega
                              · have gd : decide ((E : Int) > 12) = true := decide_eq_true (by omega)
                                have HR : Hid (rightB ns = false) := HNS.out h0i (fun ⟨p, e, _, _, _, hd⟩ => by
                                  rw [HPX.out] at e
                                  obtain rfl : p = P := by omega
                                  rw [hD] at hd
                                  exact hd12 hd)
                                clear hmem hdv hD hE hd12
                                go_wp2_with (first | (go_at_call 18; refine (HNA.out _).mono ?_; rintro e w6 ⟨rfl, rfl⟩) | (go_at_call 11; with_reducible refine (HV5.out _).mono ?_; rintro e w7 ⟨rfl, rfl⟩) | (go_at_call 11; with_reducible refine (HV3.out _).mono ?_; rintro e w7 ⟨rfl, rfl⟩) | (go_at_call 19; refine HRA.out.mono ?_; rintro e w8 ⟨rfl, b8⟩; have r0 := (HL.out _ b8 0).trans Y0.out; have rp5 := (HLP.out _ b8).trans EP5.out) | (go_at_call 20; refine (HDE.out _ (B4.out.trans (b8.mono B4.out.size))).mono ?_; rintro e w9 ⟨rfl, rfl⟩))
                                go_ret
                                exact ⟨by rw [HR.out]; rfl, B4.out.trans (b8.mono B4.out.size)⟩
                            · have hdv : depthV ns i P = 0 := by unfold depthV; rw [if_neg hmem]
                              rw [hdv] at HDE
                              have HR : Hid (rightB ns = false) := HNS.out h0i (fun ⟨p, e, _, hm, _⟩ => by
                                rw [HPX.out] at e
                                obtain rfl : p = P := by omega
                                exact hmem hm)
                              clear hmem hdv
                              go_wp2_with (first | (go_at_call 18; refine (HNA.out _).mono ?_; rintro e w6 ⟨rfl, rfl⟩) | (go_at_call 11; with_reducible refine (HV5.out _).mono ?_; rintro e w7 ⟨rfl, rfl⟩) | (go_at_call 11; with_reducible refine (HV3.out _).mono ?_; rintro e w7 ⟨rfl, rfl⟩) | (go_at_call 19; refine HRA.out.mono ?_; rintro e w8 ⟨rfl, b8⟩; have r0 := (HL.out _ b8 0).trans Y0.out; have rp5 := (HLP.out _ b8).trans EP5.out) | (go_at_call 20; refine (HDE.out _ (B4.out.trans (b8.mono B4.out.size))).mono ?_; rintro e w9 ⟨rfl, rfl⟩))
                              go_ret
                              exact ⟨by rw [HR.out]; rfl, B4.out.trans (b8.mono B4.out.size)⟩
                          · have ge : t5.toList.isEmpty = false := by rw [hte]; exact decide_eq_false hy5
                            have HR : Hid (rightB ns = false) := HNS.out h0i (fun ⟨p, e, _, _, ht, _⟩ => by
                              rw [HPX.out] at e
                              obtain rfl : p = P := by omega
                              exact hy5 (HTX.out.symm.trans ht))
                            clear hte hy5
                            go_wp2_with (first | (go_at_call 18; refine (HNA.out _).mono ?_; rintro e w6 ⟨rfl, rfl⟩) | (go_at_call 11; with_reducible refine (HV5.out _).mono ?_; rintro e w7 ⟨rfl, rfl⟩) | (go_at_call 11; with_reducible refine (HV3.out _).mono ?_; rintro e w7 ⟨rfl, rfl⟩) | (go_at_call 19; refine HRA.out.mono ?_; rintro e w8 ⟨rfl, b8⟩; have r0 := (HL.out _ b8 0).trans Y0.out; have rp5 := (HLP.out _ b8).trans EP5.out))
                            go_ret
                            exact ⟨by rw [HR.out]; rfl, B4.out.trans (b8.mono B4.out.size)⟩
          · have HR : Hid (rightB ns = true) := HAA.out (by omega) h1 HPZ.out (fun j hj => hok.out j (by omega))
            go_wp2_with fail
            go_ret
            exact ⟨by rw [HR.out]; rfl, hb.out⟩
      · have gm : (q0 == -1) = false := by simpa using hm
        have HR : Hid (rightB ns = false) := HN0.out (fun h => hm (by rw [← hpz]; exact h.2.2))
        clear hm hpz hc
        go_enter Tryd.func10, Tryd.ntmps10
        go_wp2_with fail
        go_ret
        exact ⟨by rw [HR.out]; rfl, Below.refl _ _⟩
    · have g1 : decide ((n : Int) > 1000) = true := decide_eq_true (by omega)
      have HR : Hid (rightB ns = false) := HN0.out (by omega)
      clear hc
      go_enter Tryd.func10, Tryd.ntmps10
      go_wp2_with fail
      go_ret
      exact ⟨by rw [HR.out]; rfl, Below.refl _ _⟩
end Go.Proofs.YtbkfmbkamocllaaDoor
