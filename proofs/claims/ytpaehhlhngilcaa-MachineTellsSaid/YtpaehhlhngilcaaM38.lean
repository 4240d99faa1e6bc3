import Derived.Test.YtpaehhlhngilcaaM35
import Derived.Deep.RegionHeld3
import Derived.Test.YtpaehhlhngilcaaM21
import Derived.Test.YtpaehhlhngilcaaM22
import Derived.Test.YtpaehhlhngilcaaM36
import Derived.Test.YtpaehhlhngilcaaM37
import Derived.BigQuiet
/- what is reached of it -/
namespace Go.Proofs.Ytpaehhlhngilcaa
open Go.RowKit Tx Vc Ct
theorem OwnT.readsM {B : Nat} {w : World} {v : Value} {x : List ByteArray} (h : OwnT B w v x) : ReadT w.heap.size w v x := by
  have h' : w.ownsRow B 9 1 v x.length (strs x) := h
  rcases h'.2 with ⟨rfl, h0⟩ | ⟨g, cap, cur, rfl, _, hh, _⟩
  · exact ⟨none, 0, by rw [h0], fun h => absurd h (by omega)⟩
  · refine ⟨_, cap, rfl, fun h0 => ⟨_, rfl, lt_of_block hh, fun i b hi => ?_⟩⟩
    exact h'.cells (g := g) rfl i _ (by unfold strs; rw [List.getElem?_map, hi]; rfl)
/-- the document's Step, told by cells -/
theorem rstep_at (m n : Mod) (z : Int) (r : Bool) (hn : stepM m z = n) (hr : (!decide (n = m)) = r) (w : World) : Calls Try.prog 11 #[.agg #[.bool m.to, .bool m.fr, .bool m.ask, .bool m.inn, .bool m.app], .int .i64 z] w fun e w' => e = .returned (.tuple #[.agg #[.bool n.to, .bool n.fr, .bool n.ask, .bool n.inn, .bool n.app], .bool r]) ∧ Below w.heap.size w w' := by
  subst hn hr
  exact rstep_any m z w
set_option maxHeartbeats 16000000 in
set_option maxRecDepth 100000 in
theorem machineTells_any (m : Mod) (ev : Int) (x : Itm) (q : Slc) (w : World) (hR : ReadT w.heap.size w (sl q) (sts x.groups)) (hl : x.groups.length ≤ 8796093022208) :
    Calls Try.prog 3 #[agM m, .int .i64 ev, agI x (sl q)] w fun e w' => e = .returned (.bool true) ∧ Below w.heap.size w w' := by
  have HAW := Lib.hid (fun W => mawake_any W)
  obtain ⟨A, n, cp⟩ := q
  have HRT := Lib.hid hR
  have HRD : Hid (∀ W, Below w.heap.size w W → ReadT W.heap.size W (.slice A n cp) (sts x.groups)) := fun W h => (HRT.out.below h).more h.size
  have HIN := Lib.hid (fun W (h : Below w.heap.size w W) => into_any x (.slice A n cp) m W (HRD.out W h) hl)
  have HRIN := Lib.hid (fun W (h : Below w.heap.size w W) => rinto_any x (.slice A n cp) m W (HRD.out W h) hl)
  have HIT := Lib.hid (fun W (g1 : Slc) (h1 : ReadT W.heap.size W (sl g1) (sts x.groups)) (h : Below w.heap.size w W) => helpI_same (intoM x m) g1 (A, n, cp) W h1 (HRD.out W h) (Nat.le_trans hl (by decide)))
  have HOF := Lib.hid (fun W => of_any x A n cp W)
  have HMO := Lib.hid (fun W => modeOf_any x A n cp W)
  have HSM := Lib.hid (fun W v (h : ReadI W.heap.size W v [(x, (A, n, cp))]) => smallZ_any v [(x, (A, n, cp))] W h (by simp) (fun p hp => by simp only [List.mem_singleton] at hp; subst hp; exact hl))
  have HGN : Hid (∀ W gv', OwnT W.heap.size W gv' (sts x.groups) → ∃ iA icap, gv' = .slice iA n icap) := fun W gv' h => by
    obtain ⟨iA, icap, hv⟩ := h.slice
    obtain ⟨A2, cap2, hv2, _⟩ := HRT.out
    obtain ⟨-, e2, -⟩ := Value.slice.inj hv2
    exact ⟨iA, icap, by rw [hv, ← e2]⟩
  have HLEN : Hid (n = (sts x.groups).length) := by
    obtain ⟨A2, cap2, hv2, _⟩ := HRT.out
    exact (Value.slice.inj hv2).2.1
  obtain ⟨OM, hOM⟩ : ∃ O, ofM x = O := ⟨_, rfl⟩
  rw [hOM] at HOF HMO
  have haiI : ∀ A cp, agI (intoM x m) (.slice A n cp) = .agg #[.string (bts x.jid), .string (bts x.name), .slice A n cp, .int .i64 (subM m), .bool m.ask, .bool m.app] := fun A cp => rfl
  have HAI := Lib.hid haiI
  obtain ⟨jid, name, groups, s, k, u⟩ := x
  obtain ⟨a, b, c, d, f⟩ := m
  obtain ⟨o0, o1, o2, o3, o4⟩ := OM
  have hai : agI ⟨jid, name, groups, s, k, u⟩ (.slice A n cp) = .agg #[.string (bts jid), .string (bts name), .slice A n cp, .int .i64 s, .bool k, .bool u] := rfl
  have hsl : agI ⟨jid, name, groups, s, k, u⟩ (sl (A, n, cp)) = .agg #[.string (bts jid), .string (bts name), .slice A n cp, .int .i64 s, .bool k, .bool u] := rfl
  have henc : encI ⟨jid, name, groups, s, k, u⟩ (sl (A, n, cp)) = [.string (bts jid), .string (bts name), .slice A n cp, .int .i64 s, .bool k, .bool u] := rfl
  rw [hsl, ← agM_mk]
  rw [hai] at HOF HMO HIN HRIN
  rw [← agM_mk] at HOF HMO HIN HRIN
  dsimp only at HAI HRD HIT HGN HIN HRIN HLEN
  have HENC := Lib.hid henc
  obtain ⟨T, hT⟩ : ∃ T, intoM ⟨jid, name, groups, s, k, u⟩ ⟨a, b, c, d, f⟩ = T := ⟨_, rfl⟩
  rw [hT] at HAI HIN HRIN HIT
  obtain ⟨J, hJ⟩ : ∃ J, bts jid = J := ⟨_, rfl⟩
  obtain ⟨N, hN⟩ : ∃ J, bts name = J := ⟨_, rfl⟩
  rw [hJ, hN] at HAI HOF HMO HIN HRIN HENC ⊢
  obtain ⟨S, hS⟩ : ∃ S, subM ⟨a, b, c, d, f⟩ = S := ⟨_, rfl⟩
  rw [hS] at HAI
  have HTG : Hid (T.groups = groups) := by rw [← hT]; rfl
  clear hS hJ hN hT hai hsl henc haiI hOM hl hR
  obtain ⟨W0, hW0⟩ : ∃ W, w.alloc (.cells #[.bool a, .bool b, .bool c, .bool d, .bool f] 23) = W := ⟨_, rfl⟩
  obtain ⟨p, hp⟩ : ∃ g, w.heap.size = g := ⟨_, rfl⟩
  have Kp_0 : Hid (Bk W0 p 23 #[.bool a, .bool b, .bool c, .bool d, .bool f]) := by rw [← hW0, ← hp]; exact Bk.new _ _ _
  have B_0 : Hid (Below w.heap.size w W0) := by rw [← hW0]; exact (Below.refl _ _).alloc (Nat.le_refl _) _
  have HLp : Hid (w.heap.size ≤ p) := by unfold Hid; omega
  have HW0 := Lib.hid hW0
  have HAp := Lib.hid hp
  clear hW0 hp
  obtain ⟨W1, hW1⟩ : ∃ W, W0.alloc (.cells #[.string J, .string N, .slice A n cp, .int .i64 s, .bool k, .bool u] 26) = W := ⟨_, rfl⟩
  obtain ⟨G, hG⟩ : ∃ g, W0.heap.size = g := ⟨_, rfl⟩
  have Kp_1 : Hid (Bk W1 p 23 #[.bool a, .bool b, .bool c, .bool d, .bool f]) := by rw [← hW1]; exact Kp_0.out.alloc _
  have HNpG : Hid (p < G) := by have := Kp_0.out.lt; unfold Hid; omega
  have KG_1 : Hid (Bk W1 G 26 #[.string J, .string N, .slice A n cp, .int .i64 s, .bool k, .bool u]) := by rw [← hW1, ← hG]; exact Bk.new _ _ _
  have B_1 : Hid (Below w.heap.size w W1) := by rw [← hW1]; exact B_0.out.alloc B_0.out.size _
  have HLG : Hid (w.heap.size ≤ G) := by have := B_0.out.size; unfold Hid; omega
  have HW1 := Lib.hid hW1
  have HAG := Lib.hid hG
  clear hW1 hG
  clear Kp_0 B_0
  have HAG2 : Hid (p + 1 = G) := by unfold Hid; rw [← HAG.out, ← HW0.out, World.size_alloc, HAp.out]
  go_enter Try.func3, Try.ntmps3
  go_upto_region 1 with fail
  (try rw [HW0.out])
  (try rw [HAp.out])
  (try rw [HW1.out])
  (try rw [HAG.out])
  (try rw [HAG2.out])
  (try rw [HW1.out])
  have KG := KG_1
  have c0 : W1.cell? ⟨G, 0, none⟩ = some (.string J) := KG.out.cell 0
  have c1 : W1.cell? ⟨G, 1, none⟩ = some (.string N) := KG.out.cell 1
  have c2 : W1.cell? ⟨G, 2, none⟩ = some (.slice A n cp) := KG.out.cell 2
  have c3 : W1.cell? ⟨G, 3, none⟩ = some (.int .i64 s) := KG.out.cell 3
  have c4 : W1.cell? ⟨G, 4, none⟩ = some (.bool k) := KG.out.cell 4
  have c5 : W1.cell? ⟨G, 5, none⟩ = some (.bool u) := KG.out.cell 5
  obtain ⟨WS, hWS⟩ : ∃ y, W1.alloc (.cells #[.string J, .string N, .slice A n cp, .int .i64 s, .bool k, .bool u] 26) = y := ⟨_, rfl⟩
  obtain ⟨h, hh⟩ : ∃ g, W1.heap.size = g := ⟨_, rfl⟩
  have ks : Bk WS h 26 #[.string J, .string N, .slice A n cp, .int .i64 s, .bool k, .bool u] := by rw [← hWS, ← hh]; exact Bk.new _ _ _
  have bs : Below W1.heap.size W1 WS := by rw [← hWS]; exact (Below.refl _ _).alloc (Nat.le_refl _) _
  have HRI : Hid (ReadI WS.heap.size WS (.slice (some ⟨h, 0, none⟩) 1 1) [(⟨jid, name, groups, s, k, u⟩, (A, n, cp))]) := by
    refine ⟨_, _, rfl, fun _ => ⟨h, 0, rfl, ks.lt, fun i p hp c v hv => ?_⟩, fun p hp => ?_⟩
    · have hi : i = 0 := by have := (List.getElem?_eq_some_iff.1 hp).1; simpa using this
      subst hi
      obtain rfl := (Option.some.inj hp).symm
      rw [HENC.out] at hv
      simp only [Nat.zero_mul, Nat.zero_add]
      rw [ks.cell c]
      simpa using hv
    · simp only [List.mem_singleton] at hp
      subst hp
      exact HRD.out WS (B_1.out.trans (bs.mono B_1.out.size))
  have KG2 := Lib.hid (KG.out.below bs KG.out.lt)
  have BS := Lib.hid bs
  have Kp_2 : Hid (Bk WS p 23 #[.bool a, .bool b, .bool c, .bool d, .bool f]) := Kp_1.out.below BS.out Kp_1.out.lt
  have B_2 : Hid (Below w.heap.size w WS) := B_1.out.trans (BS.out.mono B_1.out.size)
  clear Kp_1 B_1
  go_wp2_with fail
  refine (HSM.out WS _ HRI.out).mono ?_
  rintro e v9 ⟨⟨bb, rfl, -⟩, b9⟩
  have KG3 := Lib.hid (KG2.out.below b9 KG2.out.lt)
  clear c0 c1 c2 c3 c4 c5 hWS hh ks bs KG KG2 HRI HSM
  have Kp_3 : Hid (Bk v9 p 23 #[.bool a, .bool b, .bool c, .bool d, .bool f]) := Kp_2.out.below b9 Kp_2.out.lt
  have B_3 : Hid (Below w.heap.size w v9) := B_2.out.trans (b9.mono B_2.out.size)
  clear Kp_2 B_2
  clear b9 BS
  cases bb with
  | false =>
    go_wp2_with fail
    refine (HAW.out v9).mono ?_
    rintro e v1 ⟨rfl, b1⟩
    have B1 : Hid (Below w.heap.size w v1) := B_3.out.trans (b1.mono B_3.out.size)
    clear b1
    go_wp2_with fail
    go_ret
    exact ⟨rfl, B1.out⟩
  | true =>
    obtain ⟨⟨x0, x1, x2, x3, x4⟩, hA⟩ : ∃ A, stepM ⟨a, b, c, d, f⟩ ev = A := ⟨_, rfl⟩
    obtain ⟨rb, hrb⟩ : ∃ r, (!decide ((⟨x0, x1, x2, x3, x4⟩ : Mod) = ⟨a, b, c, d, f⟩)) = r := ⟨_, rfl⟩
    have HST := Lib.hid (fun W => step_at ⟨a, b, c, d, f⟩ ⟨x0, x1, x2, x3, x4⟩ ev rb hA hrb W)
    have HRS := Lib.hid (fun W => rstep_at ⟨a, b, c, d, f⟩ ⟨x0, x1, x2, x3, x4⟩ ev rb hA hrb W)
    clear hA hrb
    have cp0 : v9.cell? ⟨p, 0, none⟩ = some (.bool a) := Kp_3.out.cell 0
    have cp1 : v9.cell? ⟨p, 1, none⟩ = some (.bool b) := Kp_3.out.cell 1
    have cp2 : v9.cell? ⟨p, 2, none⟩ = some (.bool c) := Kp_3.out.cell 2
    have cp3 : v9.cell? ⟨p, 3, none⟩ = some (.bool d) := Kp_3.out.cell 3
    have cp4 : v9.cell? ⟨p, 4, none⟩ = some (.bool f) := Kp_3.out.cell 4
    go_wp2_with fail
    refine (HST.out v9).mono ?_
    rintro e v10 ⟨rfl, b10⟩
    have KG4 := Lib.hid (KG3.out.below b10 KG3.out.lt)
    clear cp0 cp1 cp2 cp3 cp4
    have Kp_4 : Hid (Bk v10 p 23 #[.bool a, .bool b, .bool c, .bool d, .bool f]) := Kp_3.out.below b10 Kp_3.out.lt
    have B_4 : Hid (Below w.heap.size w v10) := B_3.out.trans (b10.mono B_3.out.size)
    clear Kp_3 B_3
    clear b10
    obtain ⟨W5, hW5⟩ : ∃ W, v10.alloc (.cells #[.bool x0, .bool x1, .bool x2, .bool x3, .bool x4] 23) = W := ⟨_, rfl⟩
    obtain ⟨y, hy⟩ : ∃ g, v10.heap.size = g := ⟨_, rfl⟩
    have Kp_5 : Hid (Bk W5 p 23 #[.bool a, .bool b, .bool c, .bool d, .bool f]) := by rw [← hW5]; exact Kp_4.out.alloc _
    have HNpy : Hid (p < y) := by have := Kp_4.out.lt; unfold Hid; omega
    have Ky_5 : Hid (Bk W5 y 23 #[.bool x0, .bool x1, .bool x2, .bool x3, .bool x4]) := by rw [← hW5, ← hy]; exact Bk.new _ _ _
    have B_5 : Hid (Below w.heap.size w W5) := by rw [← hW5]; exact B_4.out.alloc B_4.out.size _
    have HLy : Hid (w.heap.size ≤ y) := by have := B_4.out.size; unfold Hid; omega
    have HW5 := Lib.hid hW5
    have HAy := Lib.hid hy
    clear hW5 hy
    clear Kp_4 B_4
    have KG5 : Hid (Bk W5 G 26 #[.string J, .string N, .slice A n cp, .int .i64 s, .bool k, .bool u]) := by rw [← HW5.out]; exact KG4.out.alloc _
    go_upto_region 4 with fail
    (try rw [HW5.out])
    (try rw [HAy.out])
    have cp0 : W5.cell? ⟨p, 0, none⟩ = some (.bool a) := Kp_5.out.cell 0
    have cp1 : W5.cell? ⟨p, 1, none⟩ = some (.bool b) := Kp_5.out.cell 1
    have cp2 : W5.cell? ⟨p, 2, none⟩ = some (.bool c) := Kp_5.out.cell 2
    have cp3 : W5.cell? ⟨p, 3, none⟩ = some (.bool d) := Kp_5.out.cell 3
    have cp4 : W5.cell? ⟨p, 4, none⟩ = some (.bool f) := Kp_5.out.cell 4
    go_wp2_with fail
    refine (HRS.out W5).mono ?_
    rintro e v11 ⟨rfl, b11⟩
    have KG6 := Lib.hid (KG5.out.below b11 KG5.out.lt)
    clear cp0 cp1 cp2 cp3 cp4
    have Kp_6 : Hid (Bk v11 p 23 #[.bool a, .bool b, .bool c, .bool d, .bool f]) := Kp_5.out.below b11 Kp_5.out.lt
    have Ky_6 : Hid (Bk v11 y 23 #[.bool x0, .bool x1, .bool x2, .bool x3, .bool x4]) := Ky_5.out.below b11 Ky_5.out.lt
    have B_6 : Hid (Below w.heap.size w v11) := B_5.out.trans (b11.mono B_5.out.size)
    clear Kp_5 Ky_5 B_5
    clear b11
    obtain ⟨W7, hW7⟩ : ∃ W, v11.alloc (.cells #[.bool x0, .bool x1, .bool x2, .bool x3, .bool x4] 23) = W := ⟨_, rfl⟩
    obtain ⟨z, hz⟩ : ∃ g, v11.heap.size = g := ⟨_, rfl⟩
    have Kp_7 : Hid (Bk W7 p 23 #[.bool a, .bool b, .bool c, .bool d, .bool f]) := by rw [← hW7]; exact Kp_6.out.alloc _
    have HNpz : Hid (p < z) := by have := Kp_6.out.lt; unfold Hid; omega
    have Ky_7 : Hid (Bk W7 y 23 #[.bool x0, .bool x1, .bool x2, .bool x3, .bool x4]) := by rw [← hW7]; exact Ky_6.out.alloc _
    have HNyz : Hid (y < z) := by have := Ky_6.out.lt; unfold Hid; omega
    have Kz_7 : Hid (Bk W7 z 23 #[.bool x0, .bool x1, .bool x2, .bool x3, .bool x4]) := by rw [← hW7, ← hz]; exact Bk.new _ _ _
    have B_7 : Hid (Below w.heap.size w W7) := by rw [← hW7]; exact B_6.out.alloc B_6.out.size _
    have HLz : Hid (w.heap.size ≤ z) := by have := B_6.out.size; unfold Hid; omega
    have HW7 := Lib.hid hW7
    have HAz := Lib.hid hz
    clear hW7 hz
    clear Kp_6 Ky_6 B_6
    have KG7 : Hid (Bk W7 G 26 #[.string J, .string N, .slice A n cp, .int .i64 s, .bool k, .bool u]) := by rw [← HW7.out]; exact KG6.out.alloc _
    go_upto_region 5 with fail
    (try rw [HW7.out])
    (try rw [HAz.out])
    obtain ⟨Rb, hRb⟩ : ∃ r, rightM ⟨a, b, c, d, f⟩ = r := ⟨_, rfl⟩
    have HR1 := Lib.hid (fun W => rightM_any a b c d f W)
    have HR2 := Lib.hid (fun W => rrightM_any a b c d f W)
    rw [hRb] at HR1 HR2
    clear hRb
    have e1 : (Rb == Rb) = true := by simp
    have e2 : (rb == rb) = true := by simp
    have q1 := eqlM_at (m := ⟨x0, x1, x2, x3, x4⟩) (n := ⟨x0, x1, x2, x3, x4⟩) (r := true) (by simp)
    have q2 := eqgM_at .eql ⟨x0, x1, x2, x3, x4⟩ ⟨x0, x1, x2, x3, x4⟩
    have q3 := eqlM_at (m := ⟨o0, o1, o2, o3, o4⟩) (n := ⟨o0, o1, o2, o3, o4⟩) (r := true) (by simp)
    have q4 := eqgM_at .eql ⟨o0, o1, o2, o3, o4⟩ ⟨o0, o1, o2, o3, o4⟩
    have HPc0 : Hid (∀ W, Below W7.heap.size W7 W → W.cell? ⟨p, 0, none⟩ = some (.bool a)) := fun W h => (Kp_7.out.below h Kp_7.out.lt).cell 0
    have HPc1 : Hid (∀ W, Below W7.heap.size W7 W → W.cell? ⟨p, 1, none⟩ = some (.bool b)) := fun W h => (Kp_7.out.below h Kp_7.out.lt).cell 1
    have HPc2 : Hid (∀ W, Below W7.heap.size W7 W → W.cell? ⟨p, 2, none⟩ = some (.bool c)) := fun W h => (Kp_7.out.below h Kp_7.out.lt).cell 2
    have HPc3 : Hid (∀ W, Below W7.heap.size W7 W → W.cell? ⟨p, 3, none⟩ = some (.bool d)) := fun W h => (Kp_7.out.below h Kp_7.out.lt).cell 3
    have HPc4 : Hid (∀ W, Below W7.heap.size W7 W → W.cell? ⟨p, 4, none⟩ = some (.bool f)) := fun W h => (Kp_7.out.below h Kp_7.out.lt).cell 4
    have HYc0 : Hid (∀ W, Below W7.heap.size W7 W → W.cell? ⟨y, 0, none⟩ = some (.bool x0)) := fun W h => (Ky_7.out.below h Ky_7.out.lt).cell 0
    have HYc1 : Hid (∀ W, Below W7.heap.size W7 W → W.cell? ⟨y, 1, none⟩ = some (.bool x1)) := fun W h => (Ky_7.out.below h Ky_7.out.lt).cell 1
    have HYc2 : Hid (∀ W, Below W7.heap.size W7 W → W.cell? ⟨y, 2, none⟩ = some (.bool x2)) := fun W h => (Ky_7.out.below h Ky_7.out.lt).cell 2
    have HYc3 : Hid (∀ W, Below W7.heap.size W7 W → W.cell? ⟨y, 3, none⟩ = some (.bool x3)) := fun W h => (Ky_7.out.below h Ky_7.out.lt).cell 3
    have HYc4 : Hid (∀ W, Below W7.heap.size W7 W → W.cell? ⟨y, 4, none⟩ = some (.bool x4)) := fun W h => (Ky_7.out.below h Ky_7.out.lt).cell 4
    have HZc0 : Hid (∀ W, Below W7.heap.size W7 W → W.cell? ⟨z, 0, none⟩ = some (.bool x0)) := fun W h => (Kz_7.out.below h Kz_7.out.lt).cell 0
    have HZc1 : Hid (∀ W, Below W7.heap.size W7 W → W.cell? ⟨z, 1, none⟩ = some (.bool x1)) := fun W h => (Kz_7.out.below h Kz_7.out.lt).cell 1
    have HZc2 : Hid (∀ W, Below W7.heap.size W7 W → W.cell? ⟨z, 2, none⟩ = some (.bool x2)) := fun W h => (Kz_7.out.below h Kz_7.out.lt).cell 2
    have HZc3 : Hid (∀ W, Below W7.heap.size W7 W → W.cell? ⟨z, 3, none⟩ = some (.bool x3)) := fun W h => (Kz_7.out.below h Kz_7.out.lt).cell 3
    have HZc4 : Hid (∀ W, Below W7.heap.size W7 W → W.cell? ⟨z, 4, none⟩ = some (.bool x4)) := fun W h => (Kz_7.out.below h Kz_7.out.lt).cell 4
    have HGc0 : Hid (∀ W, Below W7.heap.size W7 W → W.cell? ⟨G, 0, none⟩ = some (.string J)) := fun W h => (KG7.out.below h KG7.out.lt).cell 0
    have HGc1 : Hid (∀ W, Below W7.heap.size W7 W → W.cell? ⟨G, 1, none⟩ = some (.string N)) := fun W h => (KG7.out.below h KG7.out.lt).cell 1
    have HGc2 : Hid (∀ W, Below W7.heap.size W7 W → W.cell? ⟨G, 2, none⟩ = some (.slice A n cp)) := fun W h => (KG7.out.below h KG7.out.lt).cell 2
    have HGc3 : Hid (∀ W, Below W7.heap.size W7 W → W.cell? ⟨G, 3, none⟩ = some (.int .i64 s)) := fun W h => (KG7.out.below h KG7.out.lt).cell 3
    have HGc4 : Hid (∀ W, Below W7.heap.size W7 W → W.cell? ⟨G, 4, none⟩ = some (.bool k)) := fun W h => (KG7.out.below h KG7.out.lt).cell 4
    have HGc5 : Hid (∀ W, Below W7.heap.size W7 W → W.cell? ⟨G, 5, none⟩ = some (.bool u)) := fun W h => (KG7.out.below h KG7.out.lt).cell 5
    have HUP : Hid (∀ V, Below W7.heap.size W7 V → Below w.heap.size w V) := fun V h => B_7.out.trans (h.mono B_7.out.size)
    have bN : Below W7.heap.size W7 W7.drew := (Below.refl _ _).drew
    refine wp_region_held_drew (S := fun w' => Below W7.heap.size W7 w' ∧ w'.cell? ⟨p, 0, none⟩ = some (.bool a) ∧ w'.cell? ⟨p, 1, none⟩ = some (.bool b) ∧ w'.cell? ⟨p, 2, none⟩ = some (.bool c) ∧ w'.cell? ⟨p, 3, none⟩ = some (.bool d) ∧ w'.cell? ⟨p, 4, none⟩ = some (.bool f) ∧ w'.cell? ⟨y, 0, none⟩ = some (.bool x0) ∧ w'.cell? ⟨y, 1, none⟩ = some (.bool x1) ∧ w'.cell? ⟨y, 2, none⟩ = some (.bool x2) ∧ w'.cell? ⟨y, 3, none⟩ = some (.bool x3) ∧ w'.cell? ⟨y, 4, none⟩ = some (.bool x4) ∧ w'.cell? ⟨z, 0, none⟩ = some (.bool x0) ∧ w'.cell? ⟨z, 1, none⟩ = some (.bool x1) ∧ w'.cell? ⟨z, 2, none⟩ = some (.bool x2) ∧ w'.cell? ⟨z, 3, none⟩ = some (.bool x3) ∧ w'.cell? ⟨z, 4, none⟩ = some (.bool x4) ∧ w'.cell? ⟨G, 0, none⟩ = some (.string J) ∧ w'.cell? ⟨G, 1, none⟩ = some (.string N) ∧ w'.cell? ⟨G, 2, none⟩ = some (.slice A n cp) ∧ w'.cell? ⟨G, 3, none⟩ = some (.int .i64 s) ∧ w'.cell? ⟨G, 4, none⟩ = some (.bool k) ∧ w'.cell? ⟨G, 5, none⟩ = some (.bool u)) (by kernel_rfl) ?_ (fun hHeld => ?_)
    · exact ⟨bN, HPc0.out _ bN, HPc1.out _ bN, HPc2.out _ bN, HPc3.out _ bN, HPc4.out _ bN, HYc0.out _ bN, HYc1.out _ bN, HYc2.out _ bN, HYc3.out _ bN, HYc4.out _ bN, HZc0.out _ bN, HZc1.out _ bN, HZc2.out _ bN, HZc3.out _ bN, HZc4.out _ bN, HGc0.out _ bN, HGc1.out _ bN, HGc2.out _ bN, HGc3.out _ bN, HGc4.out _ bN, HGc5.out _ bN⟩
    refine wpAnyH_ready (rs := [0]) (by kernel_rfl) (by simp) ?_
    refine AllReadyH.cons (i := 0) rfl (fun K hK => ?_) AllReadyH.nil
    go_simp
    refine (HAW.out _).mono ?_
    rintro e wv0 ⟨rfl, bC⟩
    have bN := bN.trans (bC.mono bN.size)
    clear bC
    go_wp2_with fail
    refine hK.out _ _ ?_ (fun hHeld => ?_)
    · exact ⟨bN, HPc0.out _ bN, HPc1.out _ bN, HPc2.out _ bN, HPc3.out _ bN, HPc4.out _ bN, HYc0.out _ bN, HYc1.out _ bN, HYc2.out _ bN, HYc3.out _ bN, HYc4.out _ bN, HZc0.out _ bN, HZc1.out _ bN, HZc2.out _ bN, HZc3.out _ bN, HZc4.out _ bN, HGc0.out _ bN, HGc1.out _ bN, HGc2.out _ bN, HGc3.out _ bN, HGc4.out _ bN, HGc5.out _ bN⟩
    clear hK K
    try simp only [Act.put, List.setIfInBounds_toArray, List.set_cons_zero, List.set_cons_succ]
    refine take_w 1 (some 29) ?v2 rfl rfl (by kernel_rfl) (by kernel_rfl) (by kernel_rfl) (by rfl) ?y2 (fun _ _ _ h => h) (by assumption) ?n2
    case y2 =>
      intro w hSw
      try dsimp only at hSw
      go_simp
      try with_reducible rfl
    try simp only [Act.put, List.setIfInBounds_toArray, List.set_cons_zero, List.set_cons_succ]
    refine take_w 2 (some 30) ?v3 rfl rfl (by kernel_rfl) (by kernel_rfl) (by kernel_rfl) (by rfl) ?y3 (fun _ _ _ h => h) (by assumption) ?n3
    case y3 =>
      intro w hSw
      try dsimp only at hSw
      go_simp
      try with_reducible rfl
    try simp only [Act.put, List.setIfInBounds_toArray, List.set_cons_zero, List.set_cons_succ]
    refine take_w 3 (some 31) ?v4 rfl rfl (by kernel_rfl) (by kernel_rfl) (by kernel_rfl) (by rfl) ?y4 (fun _ _ _ h => h) (by assumption) ?n4
    case y4 =>
      intro w hSw
      try dsimp only at hSw
      go_simp
      try with_reducible rfl
    try simp only [Act.put, List.setIfInBounds_toArray, List.set_cons_zero, List.set_cons_succ]
    refine take_w 4 (some 32) ?v5 rfl rfl (by kernel_rfl) (by kernel_rfl) (by kernel_rfl) (by rfl) ?y5 (fun _ _ _ h => h) (by assumption) ?n5
    case y5 =>
      intro w hSw
      try dsimp only at hSw
      go_simp
      try with_reducible rfl
    try simp only [Act.put, List.setIfInBounds_toArray, List.set_cons_zero, List.set_cons_succ]
    refine take_w 5 (some 33) ?v6 rfl rfl (by kernel_rfl) (by kernel_rfl) (by kernel_rfl) (by rfl) ?y6 (fun _ _ _ h => h) (by assumption) ?n6
    case y6 =>
      intro w hSw
      try dsimp only at hSw
      go_simp
      try with_reducible rfl
    try simp only [Act.put, List.setIfInBounds_toArray, List.set_cons_zero, List.set_cons_succ]
    refine take_w 6 (some 34) ?v7 rfl rfl (by kernel_rfl) (by kernel_rfl) (by kernel_rfl) (by rfl) ?y7 (fun _ _ _ h => h) (by assumption) ?n7
    case y7 =>
      intro w hSw
      try dsimp only at hSw
      go_simp
      try with_reducible rfl
    try simp only [Act.put, List.setIfInBounds_toArray, List.set_cons_zero, List.set_cons_succ]
    refine take_w 7 (some 35) ?v8 rfl rfl (by kernel_rfl) (by kernel_rfl) (by kernel_rfl) (by rfl) ?y8 (fun _ _ _ h => h) (by assumption) ?n8
    case y8 =>
      intro w hSw
      try dsimp only at hSw
      go_simp
      try with_reducible rfl
    try simp only [Act.put, List.setIfInBounds_toArray, List.set_cons_zero, List.set_cons_succ]
    refine take_w 8 (some 36) ?v9 rfl rfl (by kernel_rfl) (by kernel_rfl) (by kernel_rfl) (by rfl) ?y9 (fun _ _ _ h => h) (by assumption) ?n9
    case y9 =>
      intro w hSw
      try dsimp only at hSw
      go_simp
      try with_reducible rfl
    try simp only [Act.put, List.setIfInBounds_toArray, List.set_cons_zero, List.set_cons_succ]
    refine take_w 9 (some 37) ?v10 rfl rfl (by kernel_rfl) (by kernel_rfl) (by kernel_rfl) (by rfl) ?y10 (fun _ _ _ h => h) (by assumption) ?n10
    case y10 =>
      intro w hSw
      try dsimp only at hSw
      go_simp
      try with_reducible rfl
    try simp only [Act.put, List.setIfInBounds_toArray, List.set_cons_zero, List.set_cons_succ]
    refine take_w 10 (some 38) ?v11 rfl rfl (by kernel_rfl) (by kernel_rfl) (by kernel_rfl) (by rfl) ?y11 (fun _ _ _ h => h) (by assumption) ?n11
    case y11 =>
      intro w hSw
      try dsimp only at hSw
      go_simp
      try with_reducible rfl
    try simp only [Act.put, List.setIfInBounds_toArray, List.set_cons_zero, List.set_cons_succ]
    refine take_w 11 (some 39) ?v12 rfl rfl (by kernel_rfl) (by kernel_rfl) (by kernel_rfl) (by rfl) ?y12 (fun _ _ _ h => h) (by assumption) ?n12
    case y12 =>
      intro w hSw
      try dsimp only at hSw
      go_simp
      try with_reducible rfl
    try simp only [Act.put, List.setIfInBounds_toArray, List.set_cons_zero, List.set_cons_succ]
    refine take_w 12 (some 40) ?v13 rfl rfl (by kernel_rfl) (by kernel_rfl) (by kernel_rfl) (by rfl) ?y13 (fun _ _ _ h => h) (by assumption) ?n13
    case y13 =>
      intro w hSw
      try dsimp only at hSw
      go_simp
      try with_reducible rfl
    try simp only [Act.put, List.setIfInBounds_toArray, List.set_cons_zero, List.set_cons_succ]
    refine take_w 14 (some 42) ?v14 rfl rfl (by kernel_rfl) (by kernel_rfl) (by kernel_rfl) (by rfl) ?y14 (fun _ _ _ h => h) (by assumption) ?n14
    case y14 =>
      intro w hSw
      try dsimp only at hSw
      go_simp
      try with_reducible rfl
    try simp only [Act.put, List.setIfInBounds_toArray, List.set_cons_zero, List.set_cons_succ]
    refine wpAnyH_ready (rs := [13]) (by kernel_rfl) (by simp) ?_
    refine AllReadyH.cons (i := 13) rfl (fun K hK => ?_) AllReadyH.nil
    go_simp
    refine (HR1.out _).mono ?_
    rintro e wv1 ⟨rfl, bC⟩
    have bN := bN.trans (bC.mono bN.size)
    clear bC
    go_wp2_with fail
    refine hK.out _ _ ?_ (fun hHeld => ?_)
    · exact ⟨bN, HPc0.out _ bN, HPc1.out _ bN, HPc2.out _ bN, HPc3.out _ bN, HPc4.out _ bN, HYc0.out _ bN, HYc1.out _ bN, HYc2.out _ bN, HYc3.out _ bN, HYc4.out _ bN, HZc0.out _ bN, HZc1.out _ bN, HZc2.out _ bN, HZc3.out _ bN, HZc4.out _ bN, HGc0.out _ bN, HGc1.out _ bN, HGc2.out _ bN, HGc3.out _ bN, HGc4.out _ bN, HGc5.out _ bN⟩
    clear hK K
    try simp only [Act.put, List.setIfInBounds_toArray, List.set_cons_zero, List.set_cons_succ]
    refine wpAnyH_ready (rs := [15]) (by kernel_rfl) (by simp) ?_
    refine AllReadyH.cons (i := 15) rfl (fun K hK => ?_) AllReadyH.nil
    go_simp
    refine (HR2.out _).mono ?_
    rintro e wv2 ⟨rfl, bC⟩
    have bN := bN.trans (bC.mono bN.size)
    clear bC
    go_wp2_with fail
    refine hK.out _ _ ?_ (fun hHeld => ?_)
    · exact ⟨bN, HPc0.out _ bN, HPc1.out _ bN, HPc2.out _ bN, HPc3.out _ bN, HPc4.out _ bN, HYc0.out _ bN, HYc1.out _ bN, HYc2.out _ bN, HYc3.out _ bN, HYc4.out _ bN, HZc0.out _ bN, HZc1.out _ bN, HZc2.out _ bN, HZc3.out _ bN, HZc4.out _ bN, HGc0.out _ bN, HGc1.out _ bN, HGc2.out _ bN, HGc3.out _ bN, HGc4.out _ bN, HGc5.out _ bN⟩
    clear hK K
    try simp only [Act.put, List.setIfInBounds_toArray, List.set_cons_zero, List.set_cons_succ]
    refine take_w 16 (some 44) ?v17 rfl rfl (by kernel_rfl) (by kernel_rfl) (by kernel_rfl) (by rfl) ?y17 (fun _ _ _ h => h) (by assumption) ?n17
    case y17 =>
      intro w hSw
      try dsimp only at hSw
      go_simp
      try with_reducible rfl
    try simp only [Act.put, List.setIfInBounds_toArray, List.set_cons_zero, List.set_cons_succ]
    refine take_w 17 (some 45) ?v18 rfl rfl (by kernel_rfl) (by kernel_rfl) (by kernel_rfl) (by rfl) ?y18 (fun _ _ _ h => h) (by assumption) ?n18
    case y18 =>
      intro w hSw
      try dsimp only at hSw
      go_simp
      try with_reducible rfl
    try simp only [Act.put, List.setIfInBounds_toArray, List.set_cons_zero, List.set_cons_succ]
    refine take_w 18 (some 46) ?v19 rfl rfl (by kernel_rfl) (by kernel_rfl) (by kernel_rfl) (by rfl) ?y19 (fun _ _ _ h => h) (by assumption) ?n19
    case y19 =>
      intro w hSw
      try dsimp only at hSw
      go_simp
      try with_reducible rfl
    try simp only [Act.put, List.setIfInBounds_toArray, List.set_cons_zero, List.set_cons_succ]
    refine take_w 19 (some 47) ?v20 rfl rfl (by kernel_rfl) (by kernel_rfl) (by kernel_rfl) (by rfl) ?y20 (fun _ _ _ h => h) (by assumption) ?n20
    case y20 =>
      intro w hSw
      try dsimp only at hSw
      go_simp
      try with_reducible rfl
    try simp only [Act.put, List.setIfInBounds_toArray, List.set_cons_zero, List.set_cons_succ]
    refine take_w 21 (some 49) ?v21 rfl rfl (by kernel_rfl) (by kernel_rfl) (by kernel_rfl) (by rfl) ?y21 (fun _ _ _ h => h) (by assumption) ?n21
    case y21 =>
      intro w hSw
      try dsimp only at hSw
      go_simp
      try with_reducible rfl
    try simp only [Act.put, List.setIfInBounds_toArray, List.set_cons_zero, List.set_cons_succ]
    refine wpAnyH_ready (rs := [20]) (by kernel_rfl) (by simp) ?_
    refine AllReadyH.cons (i := 20) rfl (fun K hK => ?_) AllReadyH.nil
    go_simp
    refine (HOF.out _).mono ?_
    rintro e wv3 ⟨rfl, bC⟩
    have bN := bN.trans (bC.mono bN.size)
    clear bC
    go_wp2_with fail
    refine hK.out _ _ ?_ (fun hHeld => ?_)
    · exact ⟨bN, HPc0.out _ bN, HPc1.out _ bN, HPc2.out _ bN, HPc3.out _ bN, HPc4.out _ bN, HYc0.out _ bN, HYc1.out _ bN, HYc2.out _ bN, HYc3.out _ bN, HYc4.out _ bN, HZc0.out _ bN, HZc1.out _ bN, HZc2.out _ bN, HZc3.out _ bN, HZc4.out _ bN, HGc0.out _ bN, HGc1.out _ bN, HGc2.out _ bN, HGc3.out _ bN, HGc4.out _ bN, HGc5.out _ bN⟩
    clear hK K
    try simp only [Act.put, List.setIfInBounds_toArray, List.set_cons_zero, List.set_cons_succ]
    refine wpAnyH_ready (rs := [22]) (by kernel_rfl) (by simp) ?_
    refine AllReadyH.cons (i := 22) rfl (fun K hK => ?_) AllReadyH.nil
    go_simp
    refine (HMO.out _).mono ?_
    rintro e wv4 ⟨rfl, bC⟩
    have bN := bN.trans (bC.mono bN.size)
    clear bC
    go_wp2_with fail
    refine hK.out _ _ ?_ (fun hHeld => ?_)
    · exact ⟨bN, HPc0.out _ bN, HPc1.out _ bN, HPc2.out _ bN, HPc3.out _ bN, HPc4.out _ bN, HYc0.out _ bN, HYc1.out _ bN, HYc2.out _ bN, HYc3.out _ bN, HYc4.out _ bN, HZc0.out _ bN, HZc1.out _ bN, HZc2.out _ bN, HZc3.out _ bN, HZc4.out _ bN, HGc0.out _ bN, HGc1.out _ bN, HGc2.out _ bN, HGc3.out _ bN, HGc4.out _ bN, HGc5.out _ bN⟩
    clear hK K
    try simp only [Act.put, List.setIfInBounds_toArray, List.set_cons_zero, List.set_cons_succ]
    refine take_w 23 (some 51) ?v24 rfl rfl (by kernel_rfl) (by kernel_rfl) (by kernel_rfl) (by rfl) ?y24 (fun _ _ _ h => h) (by assumption) ?n24
    case y24 =>
      intro w hSw
      try dsimp only at hSw
      go_simp
      try with_reducible rfl
    try simp only [Act.put, List.setIfInBounds_toArray, List.set_cons_zero, List.set_cons_succ]
    refine take_w 24 (some 52) ?v25 rfl rfl (by kernel_rfl) (by kernel_rfl) (by kernel_rfl) (by rfl) ?y25 (fun _ _ _ h => h) (by assumption) ?n25
    case y25 =>
      intro w hSw
      try dsimp only at hSw
      go_simp
      try with_reducible rfl
    try simp only [Act.put, List.setIfInBounds_toArray, List.set_cons_zero, List.set_cons_succ]
    refine take_w 25 (some 53) ?v26 rfl rfl (by kernel_rfl) (by kernel_rfl) (by kernel_rfl) (by rfl) ?y26 (fun _ _ _ h => h) (by assumption) ?n26
    case y26 =>
      intro w hSw
      try dsimp only at hSw
      go_simp
      try with_reducible rfl
    try simp only [Act.put, List.setIfInBounds_toArray, List.set_cons_zero, List.set_cons_succ]
    refine take_w 26 (some 54) ?v27 rfl rfl (by kernel_rfl) (by kernel_rfl) (by kernel_rfl) (by rfl) ?y27 (fun _ _ _ h => h) (by assumption) ?n27
    case y27 =>
      intro w hSw
      try dsimp only at hSw
      go_simp
      try with_reducible rfl
    try simp only [Act.put, List.setIfInBounds_toArray, List.set_cons_zero, List.set_cons_succ]
    refine take_w 27 (some 55) ?v28 rfl rfl (by kernel_rfl) (by kernel_rfl) (by kernel_rfl) (by rfl) ?y28 (fun _ _ _ h => h) (by assumption) ?n28
    case y28 =>
      intro w hSw
      try dsimp only at hSw
      go_simp
      try with_reducible rfl
    try simp only [Act.put, List.setIfInBounds_toArray, List.set_cons_zero, List.set_cons_succ]
    refine take_w 29 (some 57) ?v29 rfl rfl (by kernel_rfl) (by kernel_rfl) (by kernel_rfl) (by rfl) ?y29 (fun _ _ _ h => h) (by assumption) ?n29
    case y29 =>
      intro w hSw
      try dsimp only at hSw
      go_simp
      try with_reducible rfl
    try simp only [Act.put, List.setIfInBounds_toArray, List.set_cons_zero, List.set_cons_succ]
    refine take_w 30 (some 58) ?v30 rfl rfl (by kernel_rfl) (by kernel_rfl) (by kernel_rfl) (by rfl) ?y30 (fun _ _ _ h => h) (by assumption) ?n30
    case y30 =>
      intro w hSw
      try dsimp only at hSw
      go_simp
      try with_reducible rfl
    try simp only [Act.put, List.setIfInBounds_toArray, List.set_cons_zero, List.set_cons_succ]
    refine wpAnyH_ready (rs := [28]) (by kernel_rfl) (by simp) ?_
    refine AllReadyH.cons (i := 28) rfl (fun K hK => ?_) AllReadyH.nil
    go_simp
    refine (HIN.out _ (HUP.out _ bN)).mono ?_
    rintro e wv5 ⟨gv5, rfl, ho5, bC⟩
    have bC5 := bC
    have HO5 := Lib.hid (OwnT.readsM ho5)
    obtain ⟨iA, icap, hgv⟩ : ∃ iA icap, gv5 = .slice iA n icap := by obtain ⟨iA, icap, hv⟩ := ho5.slice; exact ⟨iA, icap, by rw [hv, HLEN.out]⟩
    subst hgv
    rw [HAI.out]
    have HS5 := Lib.hid bC.size
    have bN := bN.trans (bC.mono bN.size)
    clear bC bC5 ho5
    go_wp2_with fail
    refine hK.out _ _ ?_ (fun hHeld => ?_)
    · exact ⟨bN, HPc0.out _ bN, HPc1.out _ bN, HPc2.out _ bN, HPc3.out _ bN, HPc4.out _ bN, HYc0.out _ bN, HYc1.out _ bN, HYc2.out _ bN, HYc3.out _ bN, HYc4.out _ bN, HZc0.out _ bN, HZc1.out _ bN, HZc2.out _ bN, HZc3.out _ bN, HZc4.out _ bN, HGc0.out _ bN, HGc1.out _ bN, HGc2.out _ bN, HGc3.out _ bN, HGc4.out _ bN, HGc5.out _ bN⟩
    clear hK K
    try simp only [Act.put, List.setIfInBounds_toArray, List.set_cons_zero, List.set_cons_succ]
    refine wpAnyH_ready (rs := [31]) (by kernel_rfl) (by simp) ?_
    refine AllReadyH.cons (i := 31) rfl (fun K hK => ?_) AllReadyH.nil
    go_simp
    refine (HRIN.out _ (HUP.out _ bN)).mono ?_
    rintro e wv6 ⟨rfl, bC⟩
    rw [HAI.out]
    have HO6 := Lib.hid (HO5.out.below bC)
    have HS6 := Lib.hid bC.size
    have bN := bN.trans (bC.mono bN.size)
    clear bC
    go_wp2_with fail
    refine hK.out _ _ ?_ (fun hHeld => ?_)
    · exact ⟨bN, HPc0.out _ bN, HPc1.out _ bN, HPc2.out _ bN, HPc3.out _ bN, HPc4.out _ bN, HYc0.out _ bN, HYc1.out _ bN, HYc2.out _ bN, HYc3.out _ bN, HYc4.out _ bN, HZc0.out _ bN, HZc1.out _ bN, HZc2.out _ bN, HZc3.out _ bN, HZc4.out _ bN, HGc0.out _ bN, HGc1.out _ bN, HGc2.out _ bN, HGc3.out _ bN, HGc4.out _ bN, HGc5.out _ bN⟩
    clear hK K
    try simp only [Act.put, List.setIfInBounds_toArray, List.set_cons_zero, List.set_cons_succ]
    refine wpAnyH_ready (rs := [32]) (by kernel_rfl) (by simp) ?_
    refine AllReadyH.cons (i := 32) rfl (fun K hK => ?_) AllReadyH.nil
    go_simp
    have HI := HIT.out _ (iA, n, icap) (HO6.out.more HS6.out) (HUP.out _ bN)
    have h1 : agI T (sl (iA, n, icap)) = .agg #[.string J, .string N, .slice iA n icap, .int .i64 S, .bool c, .bool f] := HAI.out iA icap
    have h2 : agI T (sl (A, n, cp)) = .agg #[.string J, .string N, .slice A n cp, .int .i64 S, .bool c, .bool f] := HAI.out A cp
    rw [h1, h2] at HI
    have HI := Lib.hid HI
    clear h1 h2
    refine HI.out.mono ?_
    rintro e wv7 ⟨rfl, bC⟩
    have bN := bN.trans (bC.mono bN.size)
    clear bC
    go_wp2_with fail
    refine hK.out _ _ ?_ (fun hHeld => ?_)
    · exact ⟨bN, HPc0.out _ bN, HPc1.out _ bN, HPc2.out _ bN, HPc3.out _ bN, HPc4.out _ bN, HYc0.out _ bN, HYc1.out _ bN, HYc2.out _ bN, HYc3.out _ bN, HYc4.out _ bN, HZc0.out _ bN, HZc1.out _ bN, HZc2.out _ bN, HZc3.out _ bN, HZc4.out _ bN, HGc0.out _ bN, HGc1.out _ bN, HGc2.out _ bN, HGc3.out _ bN, HGc4.out _ bN, HGc5.out _ bN⟩
    clear hK K
    try simp only [Act.put, List.setIfInBounds_toArray, List.set_cons_zero, List.set_cons_succ]
    refine take_w 33 (some 61) ?v34 rfl rfl (by kernel_rfl) (by kernel_rfl) (by kernel_rfl) (by rfl) ?y34 (fun _ _ _ h => h) (by assumption) ?n34
    case y34 =>
      intro w hSw
      try dsimp only at hSw
      go_simp
      try with_reducible rfl
    try simp only [Act.put, List.setIfInBounds_toArray, List.set_cons_zero, List.set_cons_succ]
    refine take_w 34 (some 6) ?v35 rfl rfl (by kernel_rfl) (by kernel_rfl) (by kernel_rfl) (by rfl) ?y35 (fun _ _ _ h => h) (by assumption) ?n35
    case y35 =>
      intro w hSw
      try dsimp only at hSw
      go_simp
      try with_reducible rfl
    try simp only [Act.put, List.setIfInBounds_toArray, List.set_cons_zero, List.set_cons_succ]
    refine wpAnyH_done (by kernel_rfl) ?_ _
    go_wp2_with fail
    go_ret
    exact ⟨rfl, HUP.out _ bN⟩
end Go.Proofs.Ytpaehhlhngilcaa
