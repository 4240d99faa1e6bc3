import Derived.Test.YtfbdnaclkfmiaaaGreatDoorG29
import Derived.Lib.ConvBytes
import Derived.Lib.AtoiErrMem
/- what is reached of it -/
namespace Go.Proofs.YtfbdnaclkfmiaaaGreatDoor
open Go.RowKit Tx
theorem fpush_bytes : ∀ (p : List UInt8) (r : ByteArray), ((p.map fun c : UInt8 => (c.toNat : Int)).foldl (fun r n => r.push (UInt8.ofNat n.toNat)) r) = ⟨(r.data.toList ++ p).toArray⟩
  | [], r => by simp
  | c :: t, r => by
    rw [List.map_cons, List.foldl_cons, fpush_bytes t]
    have : (r.push (UInt8.ofNat ((c.toNat : Int)).toNat)).data.toList = r.data.toList ++ [c] := by
      show (r.data.push _).toList = _
      rw [Array.toList_push]
      simp
    rw [this]
    simp
/-- 'string(part)' -/
theorem bytesStr {P : Program} {tb ts te : TypeId} (hb : P.underlying tb = some (.slice te)) (he : P.underlying te = some (.int .u8)) (hs : P.underlying ts = some .string) (W : World) (g o cap n : Nat) (p : List UInt8) (hn : p.length = n)
    (hc : ∀ j c, p[j]? = some c → W.cell? ⟨g, o + j, none⟩ = some (.int .u8 (c.toNat : Nat))) : (convert tb ts (.slice (some ⟨g, o, none⟩) n cap)).run P W = .ok (.string ⟨p.toArray⟩) W := by
  subst hn
  rw [run_convert_bytes_string _ tb ts te _ _ _ hb he hs]
  have h := run_loadCells_list (P := P) (w := W) ⟨g, o, none⟩ (p.map fun c => Value.int .u8 (c.toNat : Int)) (by
    intro j v hj
    rw [List.getElem?_map] at hj
    obtain ⟨c, hc2, rfl⟩ := Option.map_eq_some_iff.1 hj
    rw [add_at]
    exact hc j c hc2)
  rw [List.length_map] at h
  have := run_bytesToString (P := P) W ⟨g, o, none⟩ p.length cap (p.map fun c : UInt8 => (c.toNat : Int)) (by
    rw [h, List.map_map]
    rfl)
  rw [this, fpush_bytes]
  congr 3

/-- is the sign behind k others escaped? -/
def escd : Bool → List UInt8 → Nat → Bool
  | e, _, 0 => e
  | e, [], _ + 1 => e
  | e, c :: t, k + 1 => escd (c == 92 && !e) t k
theorem escd_next (sep : UInt8) : ∀ (l : List UInt8) (e : Bool) (k : Nat) (c : UInt8), l[k]? = some c → escd e l (k + 1) = (c == 92 && !escd e l k) ∧ (cutsAt sep e l)[k]? = some (c == sep && !escd e l k)
  | [], _, k, c, h => by simp at h
  | d :: t, e, 0, c, h => by
    obtain rfl : d = c := by simpa using h
    have h0 : ∀ (e : Bool) (t : List UInt8), escd e t 0 = e := fun e t => by cases t <;> rfl
    refine ⟨by show escd _ t 0 = _; rw [h0, h0], ?_⟩
    unfold cutsAt
    rw [h0]
    rfl
  | d :: t, e, k + 1, c, h => by
    have ih := escd_next sep t (d == 92 && !e) k c (by simpa using h)
    refine ⟨ih.1, ?_⟩
    unfold cutsAt
    rw [List.getElem?_cons_succ]
    exact ih.2

set_option maxHeartbeats 1000000 in
set_option maxRecDepth 100000 in
/-- Split's function: does the sign begin a part? -/
theorem splitFn_any (a b : Nat) (c sep : UInt8) (e : Bool) (W : World) (hS : W.cell? ⟨a, 0, none⟩ = some (.int .u8 (sep.toNat : Nat))) (hB : Bk W b 4 #[.bool e]) :
    Calls Tryz.prog 112 #[.int .u8 c.toNat, .pointer (some ⟨a, 0, none⟩), .pointer (some ⟨b, 0, none⟩)] W fun E W' => E = .returned (.bool (c == sep && !e)) ∧ Bk W' b 4 #[.bool (c == 92 && !e)] ∧ W.grownBy W' (some b) := by
  have c0 := hB.cell 0
  have f0 := hB.free 0
  simp only [Nat.reduceLT, List.size_toArray, List.length_cons, List.length_nil, getElem?_pos, Nat.reduceAdd, List.getElem_toArray, List.getElem_cons_zero] at c0
  have HB := Lib.hid hB
  obtain ⟨z, hz⟩ : ∃ z : Int, (c.toNat : Int) = z := ⟨_, rfl⟩
  obtain ⟨y, hy⟩ : ∃ y : Int, (sep.toNat : Int) = y := ⟨_, rfl⟩
  have h1 : (c == sep) = (z == y) := by
    rw [Bool.eq_iff_iff]
    simp only [beq_iff_eq]
    exact ⟨fun h => by rw [← hz, ← hy, h], fun h => UInt8.toNat_inj.1 (by omega)⟩
  have h2 : (c == 92) = (z == 92) := by
    rw [Bool.eq_iff_iff]
    simp only [beq_iff_eq]
    exact ⟨fun h => by rw [← hz, h]; rfl, fun h => UInt8.toNat_inj.1 (by have : ((92 : UInt8).toNat : Int) = 92 := rfl; omega)⟩
  rw [h1, h2, hz]
  rw [hy] at hS
  clear h1 h2 hz hy hB
  cases h3 : z == y <;> cases h4 : z == 92 <;> cases e
  all_goals
    go_enter Tryz.func112, Tryz.ntmps112
    go_wp2_with fail
    go_ret
    refine ⟨ret_bool (by simp), ?_, ?_⟩
    · first
      | exact HB.out
      | (have := HB.out.put 0 (.bool true); simpa using this)
      | (have := HB.out.put 0 (.bool false); simpa using this)
    · first
      | exact grown_self _ _
      | exact grown_set _

theorem split_ivs (sep : UInt8) (l : List UInt8) : split1 sep l = tails ((ivs 0 0 (cutsAt sep false l)).map (piece2 l)) := by
  unfold split1
  rw [← spl_gat sep l false [], gat_all l _ (cutsAt_len sep l false).symm]
theorem tails_get : ∀ (R : List (List UInt8)) (k : Nat) (p : List UInt8), R[k]? = some p → (tails R)[k]? = some (if k = 0 then p else p.tail)
  | [], k, p, h => by simp at h
  | a :: t, 0, p, h => by
    obtain rfl : a = p := by simpa using h
    rfl
  | a :: t, k + 1, p, h => by
    have h2 : t[k]? = some p := by simpa using h
    show (t.map List.tail)[k]? = _
    rw [List.getElem?_map, h2]
    rfl
theorem tails_len (R : List (List UInt8)) : (tails R).length = R.length := by cases R <;> simp [tails]

set_option maxHeartbeats 4000000 in
set_option maxRecDepth 100000 in
theorem fsplit_any (s : ByteArray) (sep : UInt8) (w : World) (hs : s.size < 1000000000) :
    Calls Tryz.prog 79 #[.string s, .int .u8 sep.toNat] w fun e w' => ∃ v, e = .returned v ∧ OwnT w.heap.size w' v (sts (split1 sep s.data.toList)) ∧ Below w.heap.size w w' := by
  have hsz := Lib.size_eq s
  have hsl := split_ivs sep s.data.toList
  obtain ⟨a, ha⟩ : ∃ a, w.heap.size = a := ⟨_, rfl⟩
  obtain ⟨y, hy⟩ : ∃ y : Int, (sep.toNat : Int) = y := ⟨_, rfl⟩
  obtain ⟨W1, hW1⟩ : ∃ W1, W1 = w.alloc (.cells #[.int .u8 y] 5) := ⟨_, rfl⟩
  obtain ⟨W2, hW2⟩ : ∃ W2, W2 = W1.alloc (.cells #[.bool false] 4) := ⟨_, rfl⟩
  have hz1 : W1.heap.size = a + 1 := by rw [hW1, ← ha]; simp
  have hz2 : W2.heap.size = a + 2 := by rw [hW2, World.size_alloc, hz1]
  have hcv := Lib.run_convert_string_bytes (P := Tryz.prog) W2 9 50 5 s Tryz.underlying9 Tryz.underlying50 Tryz.underlying5
  obtain ⟨cap, hcap⟩ : ∃ cap, grownCap W2 s.size 0 5 = cap := ⟨_, rfl⟩
  have hcg : s.size ≤ cap := by rw [← hcap]; exact grownCap_ge _ _ _ _
  have hcm : cap ≤ maxLen := by rw [← hcap]; exact grownCap_le_maxLen _ _ _ _ (by unfold maxLen; omega)
  rw [hcap] at hcv
  obtain ⟨W3, hW3⟩ : ∃ W3, W3 = Lib.bytesWorld W2 5 s := ⟨_, rfl⟩
  have hz3 : W3.heap.size = a + 3 := by rw [hW3, Lib.bytesWorld_size, hz2]
  have b3 : Below a w W3 := by
    have h1 : Below a w W1 := by rw [hW1, ← ha]; exact (Below.refl _ _).alloc (Nat.le_refl _) _
    have h2 : Below a w W2 := by rw [hW2]; exact h1.alloc (by omega) _
    rw [hW3]
    exact h2.trans ((Lib.bytesWorld_below _ _ _).mono (by omega))
  have hA : W3.cell? ⟨a, 0, none⟩ = some (.int .u8 (sep.toNat : Nat)) := by
    rw [World.cell?_of_block (w := W2) (w' := W3) (a := ⟨a, 0, none⟩) (by rw [hW3]; exact Lib.bytesWorld_at_old _ _ _ _ (by show a < _; omega)), hW2, World.cell?_alloc_old _ _ _ (by show a ≠ _; omega), hW1, ← ha, hy]
    exact cell_of_row _ _ 0 _ 5 (0, 0) (heap_alloc_new w _)
  have hB : Bk W3 (a + 1) 4 #[.bool false] := by
    unfold Bk
    rw [hW3, Lib.bytesWorld_at_old _ _ _ _ (by omega), hW2, ← hz1]
    exact heap_alloc_new W1 _
  have HBy : ∀ j x, s.data.toList[j]? = some x → W3.cell? ⟨a + 2, j, none⟩ = some (.int .u8 (x.toNat : Nat)) := fun j x hx => by
    have hj : j < s.size := by rw [hsz]; exact (List.getElem?_eq_some_iff.1 hx).1
    rw [hW3, ← hz2, Lib.bytesWorld_cell _ _ _ j hj, List.getD_eq_getElem?_getD, hx]
    rfl
  rw [← hW3] at hcv
  have e1 : W1.cell? ⟨a, 0, none⟩ = some (.int .u8 y) := by
    rw [hW1, ← ha]
    exact cell_of_row _ _ 0 _ 5 (0, 0) (heap_alloc_new w _)
  have hbl := cutsAt_len sep s.data.toList false
  obtain ⟨bs, hbs⟩ : ∃ bs, cutsAt sep false s.data.toList = bs := ⟨_, rfl⟩
  have HGx := gatherB_any (a + 2) cap s.size a (a + 1) (a + 3) s.data.toList (cutsAt sep false s.data.toList) (fun k W => Bk W (a + 1) 4 #[.bool (escd false s.data.toList k)]) W3 (by omega) (by omega) (by omega) (by omega) HBy hsz.symm (by rw [hbl, hsz]) hcg hcm (by omega) (by have h0 : ∀ (e : Bool) (t : List UInt8), escd e t 0 = e := (fun e t => by cases t <;> rfl); rw [h0]; exact hB)
    (fun k W W' h1 h2 => (show W'.heap[a + 1]? = _ from h1.trans h2))
    (fun k x B W hx hB' hI hCW ht => by
      obtain ⟨n1, n2⟩ := escd_next sep s.data.toList false k x hx
      rw [hB'] at n2
      have hBe : B = (x == sep && !escd false s.data.toList k) := Option.some.inj n2
      rw [hBe, n1]
      refine splitFn_any a (a + 1) x sep _ W ?_ hI
      rw [World.cell?_of_block (w := W3) (w' := W) (a := ⟨a, 0, none⟩) (ht.keeps (g := a) (by omega) (by omega))]
      exact hA)
  rw [hbs] at HGx hsl hbl
  have HG := Lib.hid HGx
  have HBY := Lib.hid HBy
  have HSL := Lib.hid hsl
  have hok : Hid (∀ x ∈ ivs 0 0 bs, x.1 ≤ x.2 ∧ x.2 ≤ s.size) := fun x hx => by
    have := ivs_ok bs 0 0 (Nat.le_refl _) x hx
    rw [hbl, Nat.zero_add, ← hsz] at this
    exact this
  have hpos : Hid (∀ k x, 1 ≤ k → (ivs 0 0 bs)[k]? = some x → x.1 < x.2) := fun k x hk hx => by
    obtain ⟨e, t, h1, _, h3⟩ := ivs_first bs 0 0
    rw [h1] at hx
    cases k with
    | zero => omega
    | succ k =>
      rw [List.getElem?_cons_succ] at hx
      exact h3 x (List.mem_of_getElem? hx)
  have hil := (ivs_len bs 0 0).2
  rw [hbl, ← hsz] at hil
  rw [hz2, hW2, hW1] at hcv
  have HB3 := Lib.hid b3
  rw [hy]
  have HSZ := Lib.hid hsz
  have hcg2 := hcg
  clear HGx HBy hsl hW3 hW2 hW1 hz2 hcap hB hA b3 hbs hbl hcg hcm hsz
  go_enter Tryz.func79, Tryz.ntmps79
  go_wp2_with fail
  refine HG.out.mono ?_
  rintro e w3 ⟨v, rfl, ⟨g2, cap2, rfl, hr1, hr2, hr3, hr4⟩, -, t3⟩
  have hs3 := t3.below.size
  have bb3 : Below a w w3 := HB3.out.trans (t3.below.mono (by omega))
  have hby3 : Hid (∀ j x, s.data.toList[j]? = some x → w3.cell? ⟨a + 2, j, none⟩ = some (.int .u8 (x.toNat : Nat))) := fun j x hx => by
    rw [World.cell?_of_block (w := W3) (w' := w3) (a := ⟨a + 2, j, none⟩) (t3.keeps (g := a + 2) (by omega) (by omega))]
    exact HBY.out j x hx
  obtain ⟨I, hI⟩ : ∃ I, ivs 0 0 bs = I := ⟨_, rfl⟩
  rw [hI] at HSL hok hpos hil hr1 hr4 ⊢
  have HR4 := Lib.hid hr4
  obtain ⟨C4, hC4⟩ : ∃ C4, w3.heap.size = C4 := ⟨_, rfl⟩
  rw [hC4] at hr3
  obtain ⟨LL, hLL⟩ : ∃ LL, sts (split1 sep s.data.toList) = LL := ⟨_, rfl⟩
  have hLLl : LL.length = I.length := by rw [← hLL, sts_len, HSL.out, tails_len, List.length_map]
  have hLg : Hid (∀ (k : Nat) (x : Nat × Nat), I[k]? = some x → LL[k]? = some ⟨(if k = 0 then piece2 s.data.toList x else (piece2 s.data.toList x).tail).toArray⟩) := fun k x hx => by
    rw [← hLL]
    unfold sts
    rw [List.getElem?_map, HSL.out, tails_get _ k (piece2 s.data.toList x) (by rw [List.getElem?_map, hx]; rfl)]
    rfl
  have HLL := Lib.hid hLL
  have HBs := fun (W : World) (g o cap n : Nat) (p : List UInt8) h1 h2 => bytesStr (P := Tryz.prog) Tryz.underlying50 Tryz.underlying5 Tryz.underlying9 W g o cap n p h1 h2
  have HBS := Lib.hid HBs
  clear hr4 t3 hI hLL HBs HG HBY HSL hcv e1
  go_wp2_with fail
  go_loopw [7, 16] (fun lv at_ wr => ∃ (k : Nat) (v : Value), lv = v ∧ at_ = .int .i64 k ∧ k ≤ I.length ∧ Hid (OwnT C4 wr v (LL.take k)) ∧ Below C4 w3 wr) (fun _ at_ _ => I.length - (intOf at_).toNat)
  case atStart => exact ⟨0, _, rfl, rfl, Nat.zero_le _, OwnT.nil _ _, Below.refl _ _⟩
  case round =>
    obtain ⟨k, lv, hlv, rfl, hk, hown, hb4⟩ := hrel
    have hlv2 := hlv.symm
    subst hlv2
    have hsw := hb4.size
    rw [hC4] at hsw
    by_cases hlt : k < I.length
    · obtain ⟨x, hx⟩ : ∃ x, I[k]? = some x := ⟨_, List.getElem?_eq_getElem hlt⟩
      have c1 := HR4.out k x hx
      rw [← hb4.cell (p := ⟨g2, k, none⟩) hr3] at c1
      obtain ⟨hx1, hx2⟩ := hok.out x (List.mem_of_getElem? hx)
      have hxp := hpos.out k x
      have hLk := hLg.out k x hx
      have hpl := piece2_len s.data.toList x hx1 (by rw [← HSZ.out]; exact hx2)
      have hby4 : ∀ j c, (piece2 s.data.toList x)[j]? = some c → wr.cell? ⟨a + 2, x.1 + j, none⟩ = some (.int .u8 (c.toNat : Nat)) := fun j c hc => by
        have hj : j < x.2 - x.1 := by rw [← hpl]; exact (List.getElem?_eq_some_iff.1 hc).1
        rw [piece2_get _ _ _ hj] at hc
        rw [hb4.cell (p := ⟨a + 2, x.1 + j, none⟩) (by show a + 2 < C4; omega)]
        exact hby3.out _ _ hc
      have HAL : Hid ((LL.take k).length ≤ 1000000000000) := by unfold Hid; rw [List.length_take]; omega
      obtain ⟨p, hp⟩ : ∃ p, piece2 s.data.toList x = p := ⟨_, rfl⟩
      obtain ⟨o, ho⟩ : ∃ o, x.1 = o := ⟨_, rfl⟩
      obtain ⟨m, hm⟩ : ∃ m, x.2 - x.1 = m := ⟨_, rfl⟩
      obtain ⟨c', hc'⟩ : ∃ c', cap - x.1 = c' := ⟨_, rfl⟩
      have hmc : m ≤ c' := by have := hcg2; omega
      have hm1 : 1 ≤ k → 1 ≤ m := fun h => by have := hxp h hx; omega
      unfold slv at c1
      rw [hm, hc', ho] at c1
      rw [hp, hm] at hpl
      rw [hp, ho] at hby4
      rw [hp] at hLk
      clear hx hxp hp ho hm hc' hx1 hx2
      by_cases hk0 : k = 0
      · subst hk0
        rw [if_pos rfl] at hLk
        have htk : Hid (LL.take (0 + 1) = LL.take 0 ++ [⟨p.toArray⟩]) := by
          unfold Hid
          rw [List.take_add_one, hLk]
          rfl
        have hcv2 := HBS.out wr (a + 2) o c' m p hpl hby4
        obtain ⟨P, hP⟩ : ∃ P : ByteArray, ⟨p.toArray⟩ = P := ⟨_, rfl⟩
        rw [hP] at hcv2 htk
        clear hby4 hLk hpl hm1 hP
        go_wp2_with (at_builtin; refine push_str rfl _ _ rfl C4 lv _ P wr rfl hown.out rfl HAL.out hsw ?_)
        intro v' w6 h1 h2
        have R1 : Hid (OwnT C4 w6 v' (LL.take (0 + 1))) := by unfold Hid; rw [htk.out]; exact h1
        clear h1
        go_wp2_with fail
        go_roundw
        case rel => exact ⟨0 + 1, _, rfl, by go_num, by omega, R1, hb4.trans h2⟩
        case measure => simp [intOf]; omega
      · rw [if_neg hk0] at hLk
        have htk : Hid (LL.take (k + 1) = LL.take k ++ [⟨p.tail.toArray⟩]) := by
          unfold Hid
          rw [List.take_add_one, hLk]
          rfl
        have hm1' := hm1 (by omega)
        have hk1 : (0 : Int) < (k : Int) := by omega
        obtain ⟨P, hP⟩ : ∃ P : ByteArray, ⟨p.tail.toArray⟩ = P := ⟨_, rfl⟩
        rw [hP] at htk
        have hpt : p.tail.length = m - 1 := by rw [List.length_tail, hpl]
        by_cases hc1 : c' = 1
        · obtain rfl : m = 1 := by omega
          subst hc1
          have hcv2 := HBS.out wr (a + 2) o 0 0 p.tail (by rw [hpt]) (fun j c hc => by
            have : p.tail = [] := List.eq_nil_of_length_eq_zero (by rw [hpt])
            rw [this] at hc
            simp at hc)
          rw [hP] at hcv2
          clear hby4 hLk hpl hm1 hP hpt
          go_wp2_with (at_builtin; refine push_str rfl _ _ rfl C4 lv _ P wr rfl hown.out rfl HAL.out hsw ?_)
          intro v' w6 h1 h2
          have R1 : Hid (OwnT C4 w6 v' (LL.take (k + 1))) := by unfold Hid; rw [htk.out]; exact h1
          clear h1
          go_wp2_with fail
          go_roundw
          case rel => exact ⟨k + 1, _, rfl, by go_num, by omega, R1, hb4.trans h2⟩
          case measure => simp [intOf]; omega
        · have hcv2 := HBS.out wr (a + 2) (o + 1) (c' - 1) (m - 1) p.tail hpt (fun j c hc => by
            rw [← List.drop_one, List.getElem?_drop] at hc
            rw [show o + 1 + j = o + (1 + j) by omega]
            exact hby4 _ _ hc)
          rw [hP] at hcv2
          clear hby4 hLk hpl hm1 hP hpt
          go_wp2_with (at_builtin; refine push_str rfl _ _ rfl C4 lv _ P wr rfl hown.out rfl HAL.out hsw ?_)
          intro v' w6 h1 h2
          have R1 : Hid (OwnT C4 w6 v' (LL.take (k + 1))) := by unfold Hid; rw [htk.out]; exact h1
          clear h1
          go_wp2_with fail
          go_roundw
          case rel => exact ⟨k + 1, _, rfl, by go_num, by omega, R1, hb4.trans h2⟩
          case measure => simp [intOf]; omega
    · have ho := hown.out
      rw [List.take_of_length_le (by omega)] at ho
      have HOO := Lib.hid (ho.weak (B' := a) (by omega))
      clear ho
      go_wp2_with fail
      go_ret
      exact ⟨lv, rfl, by rw [HLL.out]; exact HOO.out, bb3.trans (hb4.mono (by omega))⟩
end Go.Proofs.YtfbdnaclkfmiaaaGreatDoor
