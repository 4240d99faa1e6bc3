import Derived.Test.YtpaehhlhngilcaaM30
/- what is reached of it -/
namespace Go.Proofs.Ytpaehhlhngilcaa
open Go.RowKit Tx Vc Ct
/-- what Texts adds up, in an int -/
def textsW (l : List (List UInt8)) : Int := l.foldl (fun z x => wrap64 (wrap64 (z + 1) + (x.length : Int))) 0
theorem textsW_take {l : List (List UInt8)} {k : Nat} {x : List UInt8} (h : l[k]? = some x) : textsW (l.take (k + 1)) = wrap64 (wrap64 (textsW (l.take k) + 1) + (x.length : Int)) := by
  unfold textsW
  rw [List.take_add_one, h, List.foldl_append]
  rfl
/-- what SmallItems answers: some bool, true of 150 at most -/
def SmallV (l : List (Itm × Slc)) (e : Ending) : Prop := ∃ b, e = .returned (.bool b) ∧ (b = true → l.length ≤ 150)
set_option maxHeartbeats 2000000 in
theorem ptextsZ_any (v : Value) (l : List (List UInt8)) (w : World) (hR : ReadT w.heap.size w v (sts l)) (hl : l.length ≤ 8796093022208) :
    Calls Try.prog 25 #[v] w fun e w' => e = .returned (.int .i64 (textsW l)) ∧ w' = w := by
  obtain ⟨A, cap, rfl, hcell⟩ := hR
  have hsl : (sts l).length = l.length := by unfold sts; rw [List.length_map]
  rw [hsl] at hcell ⊢
  obtain ⟨n, hn⟩ : ∃ n, l.length = n := ⟨_, rfl⟩
  have HN := Lib.hid hn
  rw [hn] at hcell hl ⊢
  have HC := Lib.hid hcell
  have HST := Lib.hid (fun k x (h : l[k]? = some x) => textsW_take h)
  clear hcell hn hsl
  go_enter Try.func25, Try.ntmps25
  go_wp2_with fail
  go_loopw [3, 4] (fun sv iv wr => ∃ (k : Nat) (m : Int), sv = .int .i64 m ∧ iv = .int .i64 k ∧ k ≤ n ∧ Hid (m = textsW (l.take k)) ∧ wr = w) (fun _ iv _ => n - (intOf iv).toNat)
  case atStart => exact ⟨0, 0, rfl, rfl, Nat.zero_le _, rfl, rfl⟩
  case round =>
    obtain ⟨k, m, rfl, rfl, hk, HM, rfl⟩ := hrel
    by_cases hlt : k < n
    · obtain ⟨ad, rfl, hlb, hcell⟩ := HC.out (by omega)
      obtain ⟨x, hx⟩ : ∃ p, l[k]? = some p := ⟨_, List.getElem?_eq_getElem (by rw [HN.out]; exact hlt)⟩
      have c0 := hcell k (bts x) (by unfold sts; rw [List.getElem?_map, hx]; rfl)
      have hnx := HST.out k x hx
      rw [← HM.out] at hnx
      have hsz : (bts x).size = x.length := by rw [Lib.size_eq]
      obtain ⟨X, hX⟩ : ∃ X, bts x = X := ⟨_, rfl⟩
      rw [hX] at hsz c0
      rw [← hsz] at hnx
      have HNX := Lib.hid hnx
      have hkb : k ≤ 8796093022208 := by omega
      clear hcell hx hlb hnx hsz hX
      go_wp2_with fail
      go_roundw
      case rel => exact ⟨k + 1, _, rfl, by go_num, by omega, HNX.out.symm, by first | exact trivial | exact rfl⟩
      case measure => simp [intOf]; omega
    · have hkn : l.take k = l := List.take_of_length_le (by rw [HN.out]; omega)
      have HE := HM.out
      rw [hkn] at HE
      have HEE := Lib.hid HE
      clear HE hkn
      go_wp2_with fail
      go_ret
      exact ⟨by rw [← HEE.out]; rfl, rfl⟩
set_option maxHeartbeats 8000000 in
set_option maxRecDepth 100000 in
theorem small1Z_any (v : Value) (l : List (Itm × Slc)) (w : World) (hb ub : Nat) (hH : Bk w hb 47 #[.string ⟨#[]⟩, .slice (some ⟨ub, 0, none⟩) 1 1]) (hU : Bk w ub 44 #[.string ⟨#[]⟩, .string ⟨#[]⟩, v, .slice none 0 0])
    (hR : ReadI w.heap.size w v l) (hl : l.length ≤ 1000000) (hg : ∀ p ∈ l, p.1.groups.length ≤ 8796093022208) :
    Calls Try.prog 19 #[.agg #[.slice (some ⟨hb, 0, none⟩) 1 1]] w fun e w' => (∃ b, e = .returned (.bool b)) ∧ Below w.heap.size w w' := by
  obtain ⟨A, cap, rfl, hA, hT⟩ := hR
  obtain ⟨W1, hW1⟩ : ∃ W1, w.alloc (.cells #[.slice (some ⟨hb, 0, none⟩) 1 1] 50) = W1 := ⟨_, rfl⟩
  obtain ⟨sb, hsb⟩ : ∃ bx, w.heap.size = bx := ⟨_, rfl⟩
  have KS : Hid (Bk W1 sb 50 #[.slice (some ⟨hb, 0, none⟩) 1 1]) := by rw [← hW1, ← hsb]; exact Bk.new _ _ _
  have B1 : Hid (Below w.heap.size w W1) := by rw [← hW1]; exact (Below.refl _ _).alloc (Nat.le_refl _) _
  have KH := Lib.hid (hH.below B1.out hH.lt)
  have KU := Lib.hid (hU.below B1.out hU.lt)
  have HA := Lib.hid hA
  have HT := Lib.hid hT
  have HGL := Lib.hid hg
  obtain ⟨len, hlen⟩ : ∃ n, l.length = n := ⟨_, rfl⟩
  rw [hlen] at KU hl
  have HLEN := Lib.hid hlen
  have HW1 := Lib.hid hW1
  have HSB := Lib.hid hsb
  clear hA hT hg hW1 hsb hH hU hlen
  go_enter Try.func19, Try.ntmps19
  go_upto_region 1 with fail
  (try rw [HW1.out])
  (try rw [HSB.out])
  go_wp2_with fail
  go_loopw [3, 4, 5, 6, 7] (fun nv iv kv uv mv wr => ∃ (u5 u6 u7 : Value) (i : Nat) (s : Int), nv = .int .i64 s ∧ iv = .int .i64 (i : Nat) ∧ kv = u5 ∧ uv = u6 ∧ mv = u7 ∧ Hid (i = 0 ∨ i = 1) ∧ Hid (Below W1.heap.size W1 wr)) (fun _ iv _ _ _ _ => 1 - (intOf iv).toNat)
  case atStart => exact ⟨_, _, _, 0, 0, rfl, rfl, rfl, rfl, rfl, .inl rfl, Below.refl _ _⟩
  case round =>
    obtain ⟨u5, u6, u7, i, s, rfl, rfl, rfl, rfl, rfl, HQ, BW⟩ := hrel
    have cs0 : wr.cell? ⟨sb, 0, none⟩ = some (.slice (some ⟨hb, 0, none⟩) 1 1) := (KS.out.below BW.out KS.out.lt).cell 0
    rcases HQ.out with rfl | rfl
    · have ch0 : wr.cell? ⟨hb, 0, none⟩ = some (.string ⟨#[]⟩) := (KH.out.below BW.out KH.out.lt).cell 0
      have ch1 : wr.cell? ⟨hb, 1, none⟩ = some (.slice (some ⟨ub, 0, none⟩) 1 1) := (KH.out.below BW.out KH.out.lt).cell 1
      clear HQ
      go_wp2_with fail
      go_loopw [3, 5, 6, 7] (fun nv kv uv mv wr2 => ∃ (u6 u7 : Value) (k : Nat) (s : Int), nv = .int .i64 s ∧ kv = .int .i64 (k : Nat) ∧ uv = u6 ∧ mv = u7 ∧ Hid (k = 0 ∨ k = 1) ∧ Hid (Below W1.heap.size W1 wr2)) (fun _ kv _ _ _ => 1 - (intOf kv).toNat)
      case atStart => exact ⟨_, _, 0, _, rfl, rfl, rfl, rfl, .inl rfl, BW⟩
      case round =>
        clear BW cs0 ch0 ch1
        obtain ⟨u6, u7, k, s, rfl, rfl, rfl, rfl, HQ, BW⟩ := hrel
        have cs0 : wr.cell? ⟨sb, 0, none⟩ = some (.slice (some ⟨hb, 0, none⟩) 1 1) := (KS.out.below BW.out KS.out.lt).cell 0
        have ch1 : wr.cell? ⟨hb, 1, none⟩ = some (.slice (some ⟨ub, 0, none⟩) 1 1) := (KH.out.below BW.out KH.out.lt).cell 1
        rcases HQ.out with rfl | rfl
        · clear HQ
          have cu0 : wr.cell? ⟨ub, 0, none⟩ = some (.string ⟨#[]⟩) := (KU.out.below BW.out KU.out.lt).cell 0
          have cu1 : wr.cell? ⟨ub, 1, none⟩ = some (.string ⟨#[]⟩) := (KU.out.below BW.out KU.out.lt).cell 1
          have cu2 : wr.cell? ⟨ub, 2, none⟩ = some (.slice A len cap) := (KU.out.below BW.out KU.out.lt).cell 2
          have cu3 : wr.cell? ⟨ub, 3, none⟩ = some (.slice none 0 0) := (KU.out.below BW.out KU.out.lt).cell 3
          obtain ⟨Wa, hWa⟩ : ∃ W, wr.alloc (.cells #[.string ⟨#[]⟩, .string ⟨#[]⟩, .slice none 0 0, .slice none 0 0] 44) = W := ⟨_, rfl⟩
          obtain ⟨uc, huc⟩ : ∃ b, wr.heap.size = b := ⟨_, rfl⟩
          have KA : Hid (Bk Wa uc 44 #[.string ⟨#[]⟩, .string ⟨#[]⟩, .slice none 0 0, .slice none 0 0]) := by rw [← hWa, ← huc]; exact Bk.new _ _ _
          have BA : Hid (Below W1.heap.size W1 Wa) := by rw [← hWa]; exact BW.out.alloc BW.out.size _
          have hcu : ∀ (b i : Nat) (x : Value), wr.cell? ⟨b, i, none⟩ = some x → b < wr.heap.size → Wa.cell? ⟨b, i, none⟩ = some x := fun b i x h hb => by rw [← hWa, ((Below.refl wr.heap.size wr).alloc (Nat.le_refl _) _).cell (p := ⟨b, i, none⟩) hb]; exact h
          have hus : sb < wr.heap.size := Nat.lt_of_lt_of_le KS.out.lt BW.out.size
          have huh : hb < wr.heap.size := Nat.lt_of_lt_of_le KH.out.lt BW.out.size
          have huu : ub < wr.heap.size := Nat.lt_of_lt_of_le KU.out.lt BW.out.size
          have da0 : Wa.cell? ⟨ub, 0, none⟩ = some (.string ⟨#[]⟩) := hcu _ _ _ cu0 huu
          have da1 : Wa.cell? ⟨ub, 1, none⟩ = some (.string ⟨#[]⟩) := hcu _ _ _ cu1 huu
          have da2 : Wa.cell? ⟨ub, 2, none⟩ = some (.slice A len cap) := hcu _ _ _ cu2 huu
          have da3 : Wa.cell? ⟨ub, 3, none⟩ = some (.slice none 0 0) := hcu _ _ _ cu3 huu
          have das : Wa.cell? ⟨sb, 0, none⟩ = some (.slice (some ⟨hb, 0, none⟩) 1 1) := hcu _ _ _ cs0 hus
          have dah : Wa.cell? ⟨hb, 1, none⟩ = some (.slice (some ⟨ub, 0, none⟩) 1 1) := hcu _ _ _ ch1 huh
          have r0 : Wa.cell? ⟨uc, 0, none⟩ = some (.string ⟨#[]⟩) := KA.out.cell 0
          have g0 : Wa.frozen? ⟨uc, 0, none⟩ = false := KA.out.free 0
          have r1 : Wa.cell? ⟨uc, 1, none⟩ = some (.string ⟨#[]⟩) := KA.out.cell 1
          have g1 : Wa.frozen? ⟨uc, 1, none⟩ = false := KA.out.free 1
          have r2 : Wa.cell? ⟨uc, 2, none⟩ = some (.slice none 0 0) := KA.out.cell 2
          have g2 : Wa.frozen? ⟨uc, 2, none⟩ = false := KA.out.free 2
          have r3 : Wa.cell? ⟨uc, 3, none⟩ = some (.slice none 0 0) := KA.out.cell 3
          have g3 : Wa.frozen? ⟨uc, 3, none⟩ = false := KA.out.free 3
          have KB := Lib.hid (laid4_bk KA.out (.string ⟨#[]⟩) (.string ⟨#[]⟩) (.slice A len cap) (.slice none 0 0))
          have BB := Lib.hid (laid4_below BA.out (by have := BW.out.size; omega : W1.heap.size ≤ uc) (.string ⟨#[]⟩) (.string ⟨#[]⟩) (.slice A len cap) (.slice none 0 0))
          obtain ⟨Wb, hWb⟩ : ∃ z, laid4 Wa uc (.string ⟨#[]⟩) (.string ⟨#[]⟩) (.slice A len cap) (.slice none 0 0) = z := ⟨_, rfl⟩
          rw [hWb] at KB BB
          clear hcu hus huh huu
          go_upto_region 10 with fail
          have e0 : ∀ p : Sy.Bel Wb, p.v.cell? ⟨uc, 0, none⟩ = some (.string ⟨#[]⟩) := fun p => (KB.out.below p.h KB.out.lt).cell 0
          have e1 : ∀ p : Sy.Bel Wb, p.v.cell? ⟨uc, 1, none⟩ = some (.string ⟨#[]⟩) := fun p => (KB.out.below p.h KB.out.lt).cell 1
          have e3 : ∀ p : Sy.Bel Wb, p.v.cell? ⟨uc, 3, none⟩ = some (.slice none 0 0) := fun p => (KB.out.below p.h KB.out.lt).cell 3
          have htx : ∀ p : Sy.Bel Wb, Calls Try.prog 25 #[.slice none 0 0] p.v fun e w' => e = .returned (.int .i64 0) ∧ Below p.v.heap.size p.v w' := fun p =>
            (ptexts_any (.slice none 0 0) [] p.v (ReadT.nil _ _ _) (by decide) (by decide)).mono fun _ _ ⟨he, hw⟩ => ⟨he, by rw [hw]; exact Below.refl _ _⟩
          refine Sy.wp_region_quiet_bel (by kernel_rfl) (by kernel_rfl) ?_
          repeat (go_big_quiet_step ((go_at_call 25; exact Sy.Calls.bel_of (htx _))))
          refine wpQuiet_nil ?_
          intro w2 hw'
          have hb2 : Below Wb.heap.size Wb w2 := by obtain ⟨v, rfl⟩ := hw'; exact v.h
          have B2 : Hid (Below W1.heap.size W1 w2) := BB.out.trans (hb2.mono BB.out.size)
          have K2 := Lib.hid (KB.out.below hb2 KB.out.lt)
          clear hw' hb2 e0 e1 e3 htx hWa huc hWb cs0 ch1 das dah
          clear cu0 da0 r0 g0
          clear cu1 da1 r1 g1
          clear cu2 da2 r2 g2
          clear cu3 da3 r3 g3
          go_wp2_with fail
          go_loopw [3, 7] (fun nv mv wr3 => ∃ (m : Nat) (s : Int), nv = .int .i64 s ∧ mv = .int .i64 (m : Nat) ∧ m ≤ len ∧ Hid (Below w2.heap.size w2 wr3)) (fun _ mv _ => len - (intOf mv).toNat)
          case atStart => exact ⟨0, _, rfl, rfl, Nat.zero_le _, Below.refl _ _⟩
          case round =>
            clear BW
            obtain ⟨m, s, rfl, rfl, hm, BW⟩ := hrel
            have cu2 : wr.cell? ⟨uc, 2, none⟩ = some (.slice A len cap) := (K2.out.below BW.out K2.out.lt).cell 2
            by_cases hml : m < len
            · have hmz : (m : Int) < (len : Int) := by omega
              have hmz0 : (0 : Int) ≤ (m : Int) := by omega
              obtain ⟨b, off, rfl, hb, hc⟩ := HA.out (by rw [HLEN.out]; omega)
              obtain ⟨p, hp⟩ : ∃ p, l[m]? = some p := ⟨_, List.getElem?_eq_getElem (by rw [HLEN.out]; exact hml)⟩
              have hpm : p ∈ l := List.mem_of_getElem? hp
              obtain ⟨x, A0, n0, cap0⟩ := p
              have BWW : Hid (∀ W, Below wr.heap.size wr W → Below w.heap.size w W) := fun W hW => B1.out.trans ((B2.out.trans ((BW.out.trans (hW.mono BW.out.size)).mono B2.out.size)).mono B1.out.size)
              obtain ⟨P, hP⟩ : ∃ P, off + m * 6 = P := ⟨_, rfl⟩
              have q0 : ∀ v : Sy.Bel wr, v.v.cell? ⟨b, P, none⟩ = some (.string (bts x.jid)) := fun v => by rw [(BWW.out v.v v.h).cell (p := ⟨b, P, none⟩) hb, ← hP]; exact hc m _ hp 0 _ rfl
              have q1 : ∀ v : Sy.Bel wr, v.v.cell? ⟨b, P + 1, none⟩ = some (.string (bts x.name)) := fun v => by rw [(BWW.out v.v v.h).cell (p := ⟨b, P + 1, none⟩) hb, ← hP]; exact hc m _ hp 1 _ rfl
              have q2 : ∀ v : Sy.Bel wr, v.v.cell? ⟨b, P + 2, none⟩ = some (.slice A0 n0 cap0) := fun v => by rw [(BWW.out v.v v.h).cell (p := ⟨b, P + 2, none⟩) hb, ← hP]; exact hc m _ hp 2 _ rfl
              have qu : ∀ v : Sy.Bel wr, v.v.cell? ⟨uc, 2, none⟩ = some (.slice (some ⟨b, off, none⟩) len cap) := fun v => (K2.out.below (BW.out.trans (v.h.mono BW.out.size)) K2.out.lt).cell 2
              have htx : ∀ v : Sy.Bel wr, Calls Try.prog 25 #[.slice A0 n0 cap0] v.v fun e w' => e = .returned (.int .i64 (textsW x.groups)) ∧ Below v.v.heap.size v.v w' := fun v =>
                (ptextsZ_any (.slice A0 n0 cap0) x.groups v.v (((HT.out _ hpm).below (BWW.out v.v v.h)).more (BWW.out v.v v.h).size) (HGL.out _ hpm)).mono fun _ _ ⟨he, hw⟩ => ⟨he, by rw [hw]; exact Below.refl _ _⟩
              obtain ⟨T, hT⟩ : ∃ T, textsW x.groups = T := ⟨_, rfl⟩
              obtain ⟨J, hJ⟩ : ∃ J, bts x.jid = J := ⟨_, rfl⟩
              obtain ⟨N, hN⟩ : ∃ J, bts x.name = J := ⟨_, rfl⟩
              rw [hJ] at q0
              rw [hN] at q1
              rw [hT] at htx
              clear hT hJ hN hpm hp hc hb
              go_wp2_with fail
              refine Sy.wp_region_quiet_bel (by kernel_rfl) (by kernel_rfl) ?_
              repeat (go_big_quiet_step ((go_at_call 25; exact Sy.Calls.bel_of (htx _))))
              refine wpQuiet_nil ?_
              intro w5 hw'
              have hb5 : Below wr.heap.size wr w5 := by obtain ⟨v, rfl⟩ := hw'; exact v.h
              have B5 : Hid (Below w2.heap.size w2 w5) := BW.out.trans (hb5.mono BW.out.size)
              clear hw' hb5 q0 q1 q2 qu htx hP
              go_wp2_with fail
              go_roundw
              case rel => exact ⟨m + 1, _, rfl, by go_num, by omega, B5⟩
              case measure => simp [intOf]; omega
            · have hmz : ¬ (m : Int) < (len : Int) := by omega
              have B6 : Hid (Below W1.heap.size W1 wr) := B2.out.trans (BW.out.mono B2.out.size)
              go_wp2_with fail
              go_roundw
              case rel => exact ⟨_, _, 1, _, rfl, by go_num, rfl, rfl, .inr rfl, B6⟩
              case measure => simp [intOf]
        · clear HQ
          go_wp2_with fail
          go_roundw
          case rel => exact ⟨_, _, _, 1, _, rfl, by go_num, rfl, rfl, rfl, .inr rfl, BW⟩
          case measure => simp [intOf]
    · clear HQ
      go_wp2_with fail
      go_ret
      exact ⟨⟨_, rfl⟩, B1.out.trans (BW.out.mono B1.out.size)⟩
set_option maxHeartbeats 2000000 in
theorem smallZ_any (v : Value) (l : List (Itm × Slc)) (w : World) (hR : ReadI w.heap.size w v l) (hl : l.length ≤ 140737488355328) (hg : ∀ p ∈ l, p.1.groups.length ≤ 8796093022208) :
    Calls Try.prog 8 #[v] w fun e w' => SmallV l e ∧ Below w.heap.size w w' := by
  obtain ⟨A, cap, hv, _⟩ := id hR
  subst hv
  obtain ⟨len, hlen⟩ : ∃ n, l.length = n := ⟨_, rfl⟩
  have HLEN := Lib.hid hlen
  by_cases h1 : len ≤ 150
  · have h1z : (len : Int) ≤ 150 := by omega
    have h1d : decide ((len : Int) ≤ 150) = true := decide_eq_true h1z
    have H1 := Lib.hid h1
    obtain ⟨W1, hW1⟩ : ∃ W, w.alloc (.cells #[.string ⟨#[]⟩, .string ⟨#[]⟩, .slice A l.length cap, .slice none 0 0] 44) = W := ⟨_, rfl⟩
    obtain ⟨ub, hub⟩ : ∃ b, w.heap.size = b := ⟨_, rfl⟩
    obtain ⟨W2, hW2⟩ : ∃ W, W1.alloc (.cells #[.string ⟨#[]⟩, .slice (some ⟨ub, 0, none⟩) 1 1] 47) = W := ⟨_, rfl⟩
    obtain ⟨hb, hhb⟩ : ∃ b, ub + 1 = b := ⟨_, rfl⟩
    have hs1 : W1.heap.size = hb := by rw [← hW1, World.size_alloc, hub, hhb]
    have k1 : Bk W1 ub 44 #[.string ⟨#[]⟩, .string ⟨#[]⟩, .slice A l.length cap, .slice none 0 0] := by rw [← hW1, ← hub]; exact Bk.new _ _ _
    have k2 : Bk W2 ub 44 #[.string ⟨#[]⟩, .string ⟨#[]⟩, .slice A l.length cap, .slice none 0 0] := by rw [← hW2]; exact k1.alloc _
    have kh : Bk W2 hb 47 #[.string ⟨#[]⟩, .slice (some ⟨ub, 0, none⟩) 1 1] := by rw [← hW2, ← hs1]; exact Bk.new _ _ _
    have b2 : Below w.heap.size w W2 := by rw [← hW2, ← hW1]; exact ((Below.refl _ _).alloc (Nat.le_refl _) _).alloc (by rw [World.size_alloc]; omega) _
    have hR2 : ReadI W2.heap.size W2 (.slice A l.length cap) l := by
      obtain ⟨A2, cap2, hv2, hc2, hT2⟩ := hR
      refine ⟨A2, cap2, hv2, fun h0 => ?_, fun p hp => ((hT2 p hp).below b2).more b2.size⟩
      obtain ⟨b, off, ha, hbb, hc⟩ := hc2 h0
      exact ⟨b, off, ha, Nat.lt_of_lt_of_le hbb b2.size, fun i p hp c u hu => by rw [b2.cell (p := ⟨b, off + i * 6 + c, none⟩) hbb]; exact hc i p hp c u hu⟩
    have HQ := Lib.hid (small1Z_any (.slice A l.length cap) l W2 hb ub kh k2 hR2 (by omega) hg)
    rw [hlen] at hW1 ⊢
    have B2 := Lib.hid b2
    have HW1 := Lib.hid hW1
    have HW2 := Lib.hid hW2
    have HUB := Lib.hid hub
    have HHB := Lib.hid hhb
    clear b2 k1 k2 kh hs1 hR hR2 hl hg hlen h1 hW1 hW2 hub hhb
    go_enter Try.func8, Try.ntmps8
    go_wp2_with fail
    (try rw [HW1.out])
    (try rw [HUB.out])
    (try rw [HHB.out])
    (try rw [HW2.out])
    refine HQ.out.mono ?_
    rintro e w3 ⟨⟨b, rfl⟩, b3⟩
    go_wp2_with fail
    go_ret
    exact ⟨⟨b, rfl, fun _ => by rw [HLEN.out]; exact H1.out⟩, B2.out.trans (b3.mono B2.out.size)⟩
  · have h1z : ¬ (len : Int) ≤ 150 := by omega
    have h1d : decide ((len : Int) ≤ 150) = false := decide_eq_false h1z
    rw [hlen]
    clear hR hl hg hlen h1
    go_enter Try.func8, Try.ntmps8
    go_wp2_with fail
    go_ret
    exact ⟨⟨false, rfl, fun h => by cases h⟩, Below.refl _ _⟩
end Go.Proofs.Ytpaehhlhngilcaa
