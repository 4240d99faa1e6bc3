/-
  package canon: elements told one behind the other, an element (it calls itself through a function handed on), Write.
-/
import Derived.Test.YtbkfmbkamocllaaDoorCnE
import Derived.Test.YtbkfmbkamocllaaDoorCnW
import Derived.Test.YtbkfmbkamocllaaDoorKids
namespace Go.Proofs.YtbkfmbkamocllaaDoor
open Go.RowKit Tk Tr Cn

theorem flat_take {x : List Nat} {g : Nat → List UInt8} {k : Nat} (h : k < x.length) : (x.take (k + 1)).flatMap g = (x.take k).flatMap g ++ g (x.getD k 0) := by
  rw [List.take_add_one, List.flatMap_append, List.getElem?_eq_getElem h, List.getD_eq_getElem?_getD, List.getElem?_eq_getElem h]
  simp
set_option maxHeartbeats 4000000 in
set_option maxRecDepth 100000 in
theorem writtenI_any (A0 : Option Addr) (n0 c0 : Nat) (kv : Value) (x : List Nat) (g : Nat → List UInt8) (w : World) (hv : Reads w.heap.size w kv x) (hl : x.length ≤ 1000000) (htot : ∀ j, ((x.take j).flatMap g).length ≤ 1000000000)
    (H : ∀ k ∈ x, ∀ W, Below w.heap.size w W → Calls Tryd.prog 13 #[.slice A0 n0 c0, .int .i64 k] W fun e w' => e = .returned (.string (bts (g k))) ∧ Below W.heap.size W w') :
    Calls Tryd.prog 26 #[kv, .func (.func 13) #[.slice A0 n0 c0] #[]] w fun e w' => e = .returned (.string (bts (x.flatMap g))) ∧ Below w.heap.size w w' := by
  obtain ⟨A, cap, rfl, hx⟩ := hv
  have HX := Lib.hid hx
  have HH := Lib.hid H
  have HTT := Lib.hid htot
  have eg : ∀ args w, (callFunc 13 args).run Tryd.prog w = .ok (.enter 13 args) w := Go.Proofs.enters_of Tryd.func13 (by kernel_rfl) rfl
  obtain ⟨n, hn⟩ : ∃ n, x.length = n := ⟨_, rfl⟩
  have HN := Lib.hid hn
  rw [hn] at hl HX ⊢
  obtain ⟨b, hb⟩ : ∃ b, w.heap.size = b := ⟨_, rfl⟩
  obtain ⟨W1, hW1⟩ : ∃ W, w.alloc (.cells #[.pointer none, .slice none 0 0] 61) = W := ⟨_, rfl⟩
  have B1 : Hid (Below b w W1) := by rw [← hW1, ← hb]; exact (Below.refl _ _).alloc (Nat.le_refl _) _
  have D1 : Hid (Bld b (b + 1) [] W1) := by rw [← hW1, ← hb]; exact Bld.start w
  have HW1 := Lib.hid hW1
  have HBE := Lib.hid hb
  clear hx H htot hn hb hW1
  go_enter Tryd.func26, Tryd.ntmps26
  go_upto_region 2 with fail
  rw [HW1.out, HBE.out]
  go_wp2_with fail
  go_loopw [10] (fun c wr => ∃ (k : Nat), k ≤ n ∧ c = .int .i64 k ∧ Hid (Bld b (b + 1) ((x.take k).flatMap g) wr) ∧ Hid (Below b w wr)) (fun c _ => n - (intOf c).toNat)
  case atStart => exact ⟨0, Nat.zero_le _, rfl, D1.out, B1.out⟩
  case round =>
    obtain ⟨k, hk, rfl, hd, hbw⟩ := hrel
    by_cases hlt : k < n
    · obtain ⟨ad, rfl, hlb, hc⟩ := HX.out (by omega)
      rw [HBE.out] at hlb
      have cell := hc k hlt
      rw [← hbw.out.cell (p := ad.add k) (by rw [addBlock]; exact hlb)] at cell
      have hmem : x.getD k 0 ∈ x := by
        rw [List.getD_eq_getElem?_getD, List.getElem?_eq_getElem (by have := HN.out; omega)]
        exact List.getElem_mem _
      have HAT := Lib.hid (flat_take (g := g) (x := x) (k := k) (by have := HN.out; omega))
      obtain ⟨z, hz⟩ : ∃ z, x.getD k 0 = z := ⟨_, rfl⟩
      rw [hz] at cell hmem HAT
      have hbs : b ≤ wr.heap.size := by have := hd.out.lt; omega
      have HQ := Lib.hid (HH.out z hmem wr (by rw [HBE.out]; exact hbw.out))
      have HLN : Hid (((x.take k).flatMap g).length + (bts (g z)).size ≤ 140737488355328 - 4096) := by
        unfold Hid
        have h3 := HTT.out (k + 1)
        rw [HAT.out, List.length_append] at h3
        rw [bts_size]
        omega
      have HBS := Lib.hid (fun (W : World) (h : Below wr.heap.size wr W) => bld_string b (b + 1) ((x.take k).flatMap g) (bts (g z)) W (hd.out.below h) HLN.out)
      have HD2 : Hid ((bts (g z)).data.toList = g z) := rfl
      have HB5 := Lib.hid hbs
      obtain ⟨E, hE⟩ : ∃ y, bts (g z) = y := ⟨_, rfl⟩
      rw [hE] at HQ HBS HD2
      clear hc hmem hz hE hbs HLN
      go_wp2_with fail
      refine HQ.out.mono ?_
      rintro e w6 ⟨rfl, b6⟩
      go_wp2_with (go_at_call 38; refine (HBS.out _ b6).mono ?_; rintro e w7 ⟨rfl, bl7, t7⟩)
      have B7 : Hid (Below b w w7) := (hbw.out.trans (b6.mono HB5.out)).trans t7.below
      have D7 : Hid (Bld b (b + 1) ((x.take (k + 1)).flatMap g) w7) := by unfold Hid; rw [HAT.out, ← HD2.out]; exact bl7
      go_roundw
      case rel => exact ⟨k + 1, by omega, by go_num, D7, B7⟩
      case measure => simp [intOf]; omega
    · have HT : Hid (x.take k = x) := by unfold Hid; rw [List.take_of_length_le (by have := HN.out; omega)]
      have hd2 := hd.out
      rw [HT.out] at hd2
      have HSt := Lib.hid (bld_String b (b + 1) _ wr hd2)
      clear hd2
      go_wp2_with (go_at_call 39; refine HSt.out.mono ?_; rintro e w5 ⟨rfl, b5⟩)
      go_ret
      rw [HBE.out]
      exact ⟨rfl, hbw.out.trans b5⟩
theorem escB_ne (c : UInt8) : Tx.escB c ≠ [] := by
  have H : ∀ k : Fin 256, Tx.escB (UInt8.ofNat k.val) ≠ [] := by decide +kernel
  have h := H ⟨c.toNat, c.toNat_lt⟩
  simpa using h
theorem esc_nil_iff (l : List UInt8) : Tx.esc l = [] ↔ l = [] := by
  cases l with
  | nil => simp [Tx.esc_nil]
  | cons c t =>
    rw [Tx.esc_cons]
    constructor
    · intro h
      exact absurd (List.append_eq_nil_iff.1 h).1 (escB_ne c)
    · intro h
      cases h
theorem kidsF_mem {p : Int} : ∀ (k : Nat) (l : List Nd) (j : Nat), j ∈ kidsF p k l → ∃ x, k ≤ j ∧ l[j - k]? = some x ∧ x.1 = p
  | _, [], j, h => by cases h
  | k, a :: l, j, h => by
    unfold kidsF at h
    have hrec : j ∈ kidsF p (k + 1) l → ∃ x, k ≤ j ∧ (a :: l)[j - k]? = some x ∧ x.1 = p := fun h => by
      obtain ⟨x, h1, h2, h3⟩ := kidsF_mem (k + 1) l j h
      refine ⟨x, by omega, ?_, h3⟩
      rw [show j - k = (j - (k + 1)) + 1 by omega, List.getElem?_cons_succ]
      exact h2
    split at h
    · rename_i ha
      rcases List.mem_cons.1 h with rfl | h
      · exact ⟨a, Nat.le_refl _, by simp, ha⟩
      · exact hrec h
    · exact hrec h
theorem kids_mem {ns : List Nd} {i : Int} {k : Nat} (h : k ∈ kidsL ns i) : k < ns.length ∧ par ns k = i := by
  unfold kidsL at h
  split at h
  · obtain ⟨x, _, h2, h3⟩ := kidsF_mem 0 ns k h
    rw [Nat.sub_zero] at h2
    exact ⟨(List.getElem?_eq_some_iff.1 h2).1, by rw [par_some h2]; exact h3⟩
  · cases h
theorem write_ne {ns : List Nd} {f i : Nat} {sp : List UInt8} (hi : i < ns.length) : writeF ns (f + 1) i sp ≠ [] := by
  unfold writeF
  rw [List.getElem?_eq_getElem hi]
  simp only
  split
  · unfold headT; simp
  · unfold headT; simp
/-- what stands within a node -/
def withinT (ns : List Nd) (f : Nat) (i : Nat) (x : Nd) : List UInt8 := Tx.esc x.2.2.2.2.2 ++ (kidsL ns (i : Int)).flatMap (fun k => writeF ns f k x.2.2.2.1)
theorem write_step {ns : List Nd} {f i : Nat} {sp : List UInt8} {x : Nd} (hx : ns[i]? = some x) (hf : kidsL ns (i : Int) ≠ [] → 0 < f) :
    writeF ns (f + 1) i sp = if withinT ns f i x = [] then headT x sp ++ [47, 62] else headT x sp ++ ([62] ++ (withinT ns f i x ++ closeT x.2.2.1)) := by
  have hiff : (x.2.2.2.2.2 = [] ∧ kidsL ns (i : Int) = []) ↔ withinT ns f i x = [] := by
    unfold withinT
    rw [List.append_eq_nil_iff, esc_nil_iff]
    constructor
    · rintro ⟨a, b⟩
      exact ⟨a, by rw [b]; rfl⟩
    · rintro ⟨a, b⟩
      refine ⟨a, ?_⟩
      rcases Decidable.em (kidsL ns (i : Int) = []) with h | h
      · exact h
      · obtain ⟨g, rfl⟩ : ∃ g, f = g + 1 := ⟨f - 1, by have := hf h; omega⟩
        cases hk : kidsL ns (i : Int) with
        | nil => rfl
        | cons k l =>
          rw [hk, List.flatMap_cons, List.append_eq_nil_iff] at b
          have hm := kids_mem (ns := ns) (i := (i : Int)) (k := k) (by rw [hk]; exact List.mem_cons_self)
          exact absurd b.1 (write_ne hm.1)
  rw [writeF, hx]
  simp only
  by_cases h : x.2.2.2.2.2 = [] ∧ kidsL ns (i : Int) = []
  · rw [if_pos h, if_pos (hiff.1 h)]
  · rw [if_neg h, if_neg (fun e => h (hiff.2 e))]
    unfold withinT
    rw [List.append_assoc]
theorem head_cat (n al : List UInt8) : (⟨#[60]⟩ ++ bts n ++ bts al : ByteArray) = bts (60 :: (n ++ al)) := by
  apply ByteArray.ext
  apply Array.ext'
  simp
theorem bts_cat (a b : List UInt8) : (bts a ++ bts b : ByteArray) = bts (a ++ b) := by
  apply ByteArray.ext
  apply Array.ext'
  simp
theorem end_cat (h : List UInt8) : (bts h ++ ⟨#[47, 62]⟩ : ByteArray) = bts (h ++ [47, 62]) := by
  apply ByteArray.ext
  apply Array.ext'
  simp
theorem full_cat (h i n : List UInt8) : (bts h ++ ⟨#[62]⟩ ++ bts i ++ ⟨#[60, 47]⟩ ++ bts n ++ ⟨#[62]⟩ : ByteArray) = bts (h ++ ([62] ++ (i ++ closeT n))) := by
  apply ByteArray.ext
  apply Array.ext'
  simp [closeT]
theorem within_empty (l : List UInt8) : (bts l).toList.isEmpty = decide (l = []) := bts_empty l
theorem spA_kid {ns : List Nd} {i : Nat} {x : Nd} (hx : ns[i]? = some x) : spA ns (i : Int) = x.2.2.2.1 := by
  unfold spA
  rw [if_pos (by omega), Int.toNat_natCast, hx]
set_option maxHeartbeats 8000000 in
set_option maxRecDepth 100000 in
theorem element_any (v : Value) (ns : List Nd) (hR : Right ns) (hS : (ns.map ownL).sum ≤ 1000000000) : ∀ (f i : Nat) (w : World), ReadM w v ns → i < ns.length → 13 ≤ f + (up ns (i : Int)).length →
    Calls Tryd.prog 13 #[v, .int .i64 i] w fun e w' => e = .returned (.string (bts (writeF ns f i (spA ns (par ns i))))) ∧ Below w.heap.size w w'
  | 0, i, w, _, hi, hf => by
    have := hR.depth hi
    omega
  | f + 1, i, w, hv, hi, hf => by
    have ih := fun k W h1 h2 h3 => element_any v ns hR hS f k W h1 h2 h3
    obtain ⟨x, hx⟩ : ∃ x, ns[i]? = some x := ⟨_, List.getElem?_eq_getElem hi⟩
    have hxm := List.mem_of_getElem? hx
    have hown := own_le hxm
    have hlow := hR.low i
    rw [par_some hx] at hlow ⊢
    have hmany := hR.many
    have hx1 : x.1 < ns.length := by omega
    have hal : x.2.2.2.2.1.length ≤ 1000000 := by
      have := (hR.each x hxm).2.2.2.1
      omega
    have hown2 : 20 + 2 * x.2.2.1.length + 6 * x.2.2.2.1.length + 6 * x.2.2.2.2.2.length + ownA x.2.2.2.2.1 ≤ 1000000000 := Nat.le_trans hown hS
    have hstep := write_step (sp := spA ns x.1) (f := f) hx (fun hk => by
      rcases Nat.eq_zero_or_pos f with h0 | h0
      · exfalso
        obtain ⟨k, hk2⟩ := List.exists_mem_of_ne_nil _ hk
        obtain ⟨k1, k2⟩ := kids_mem hk2
        have h1 := hR.depth k1
        rw [up_pos hR.low, k2, List.length_cons] at h1
        omega
      · exact h0)
    have hwl := write_le hR (f := f + 1) (sp := spA ns x.1) hi
    have hkl := kids_le hR (f := f) (sp := x.2.2.2.1) hi
    have hkids : Hid (∀ W, Below w.heap.size w W → Calls Tryd.prog 27 #[v, .int .i64 i] W fun e w' => (∃ v', e = .returned v' ∧ Owned W.heap.size w' v' (kidsL ns (i : Int))) ∧ Below W.heap.size W w') :=
      fun W hW => kids_any v ns (i : Int) W (hv.below hW).reads (by omega)
    have hsaid : Hid (∀ W, Below w.heap.size w W → Calls Tryd.prog 23 #[v, .int .i64 i] W fun e w' => ∃ u, e = .returned u ∧ ReadC w' u (allA x (spA ns x.1)) ∧ Below W.heap.size W w') :=
      fun W hW => said_any v ns i x W (hv.below hW) hx hx1 (by omega) hal
    have hwA : Hid (∀ W u, ReadC W u (allA x (spA ns x.1)) → Calls Tryd.prog 22 #[u, .func (.func 24) #[] #[]] W fun e w' => e = .returned (.string (bts (attrsT (allA x (spA ns x.1))))) ∧ Below W.heap.size W w') :=
      fun W u hu => writtenA_any u _ W hu (by have := allA_len x (spA ns x.1); omega)
    have htx : Hid (∀ W, Calls Tryd.prog 25 #[.string (bts x.2.2.2.2.2)] W fun e w' => e = .returned (.string (bts (Tx.esc x.2.2.2.2.2))) ∧ Below W.heap.size W w') :=
      fun W => text_any (bts x.2.2.2.2.2) W (by rw [bts_size]; omega)
    have hkF : ∀ k ∈ kidsL ns (i : Int), k < ns.length ∧ par ns k = (i : Int) ∧ 13 ≤ f + (up ns (k : Int)).length := fun k hk => by
      obtain ⟨k1, k2⟩ := kids_mem hk
      refine ⟨k1, k2, ?_⟩
      rw [up_pos hR.low, k2, List.length_cons]
      omega
    have hspk := spA_kid hx
    have hcl : (kidsL ns (i : Int)).length ≤ 1000000 := by
      unfold kidsL
      split
      · have := kidsF_len (i : Int) 0 ns
        omega
      · exact Nat.zero_le _
    have hwI : Hid (∀ W kv, Below w.heap.size w W → Reads W.heap.size W kv (kidsL ns (i : Int)) → Calls Tryd.prog 26 #[kv, .func (.func 13) #[v] #[]] W fun e w' => e = .returned (.string (bts ((kidsL ns (i : Int)).flatMap (fun k => writeF ns f k x.2.2.2.1)))) ∧ Below W.heap.size W w') := by
      obtain ⟨A, cap, e, _⟩ := id hv
      rw [e] at hv ih ⊢
      exact fun W kv hW hk => writtenI_any A ns.length cap kv _ (fun k => writeF ns f k x.2.2.2.1) W hk hcl (fun j => Nat.le_trans (hkl j) hS) (fun k hk W2 h2 => by
        obtain ⟨k1, k2, k3⟩ := hkF k hk
        have h4 := ih k W2 (hv.below (hW.trans (h2.mono hW.size))) k1 k3
        rw [k2, hspk] at h4
        exact h4)
    have hKl := hkl (kidsL ns (i : Int)).length
    rw [List.take_length] at hKl
    have hTAl := attrsT_len (allA x (spA ns x.1))
    have hAAl := allA_len x (spA ns x.1)
    have hHl := headT_len x (spA ns x.1)
    have hEl := Tx.esc_len x.2.2.2.2.2
    have c1 := head_cat x.2.2.1 (attrsT (allA x (spA ns x.1)))
    have c2 := bts_cat (Tx.esc x.2.2.2.2.2) ((kidsL ns (i : Int)).flatMap (fun k => writeF ns f k x.2.2.2.1))
    have c3 := end_cat (headT x (spA ns x.1))
    have c4 := full_cat (headT x (spA ns x.1)) (withinT ns f i x) x.2.2.1
    have c5 := within_empty (withinT ns f i x)
    rw [show (60 :: (x.2.2.1 ++ attrsT (allA x (spA ns x.1)))) = headT x (spA ns x.1) from rfl] at c1
    rw [show Tx.esc x.2.2.2.2.2 ++ (kidsL ns (i : Int)).flatMap (fun k => writeF ns f k x.2.2.2.1) = withinT ns f i x from rfl] at c2
    have s1 : (bts x.2.2.1).size ≤ 1000000000 := by rw [bts_size]; omega
    have s2 : (bts (attrsT (allA x (spA ns x.1)))).size ≤ 1000000000 := by rw [bts_size]; omega
    have s3 : (bts (Tx.esc x.2.2.2.2.2)).size ≤ 1000000000 := by rw [bts_size]; omega
    have s4 : (bts ((kidsL ns (i : Int)).flatMap (fun k => writeF ns f k x.2.2.2.1))).size ≤ 1000000000 := by rw [bts_size]; omega
    have s5 : (bts (headT x (spA ns x.1))).size ≤ 1000000000 := by rw [bts_size]; omega
    have s6 : (bts (withinT ns f i x)).size ≤ 2000000000 := by rw [bts_size]; unfold withinT; rw [List.length_append]; omega
    obtain ⟨TA, hTA⟩ : ∃ y, bts (attrsT (allA x (spA ns x.1))) = y := ⟨_, rfl⟩
    obtain ⟨E, hE⟩ : ∃ y, bts (Tx.esc x.2.2.2.2.2) = y := ⟨_, rfl⟩
    obtain ⟨KK, hKK⟩ : ∃ y, bts ((kidsL ns (i : Int)).flatMap (fun k => writeF ns f k x.2.2.2.1)) = y := ⟨_, rfl⟩
    obtain ⟨HD, hHD⟩ : ∃ y, bts (headT x (spA ns x.1)) = y := ⟨_, rfl⟩
    obtain ⟨WI, hWI⟩ : ∃ y, bts (withinT ns f i x) = y := ⟨_, rfl⟩
    rw [hTA] at hwA c1 s2
    rw [hE] at htx c2 s3
    rw [hKK] at hwI c2 s4
    rw [hHD] at c1 c3 c4 s5
    rw [hWI] at c2 c4 c5 s6
    obtain ⟨A, cap, rfl, -, -, hc⟩ := hv
    obtain ⟨ad, rfl, hlb, hcell⟩ := hc (by omega)
    obtain ⟨u, hat, hua⟩ := hcell i x hx
    obtain ⟨k0, k1, k2, k3, k4, k5⟩ := hat
    obtain ⟨UA, ucap, rfl, -⟩ := hua
    obtain ⟨un, hun⟩ : ∃ un, x.2.2.2.2.1.length = un := ⟨_, rfl⟩
    rw [hun] at k4
    obtain ⟨n, hn⟩ : ∃ n, ns.length = n := ⟨_, rfl⟩
    rw [hn] at hi hmany hkids hsaid hwI ⊢
    obtain ⟨a0, h0⟩ : ∃ a : Int, x.1 = a := ⟨_, rfl⟩
    obtain ⟨a1, h1⟩ : ∃ a : Int, x.2.1 = a := ⟨_, rfl⟩
    obtain ⟨a2, h2⟩ : ∃ a, bts x.2.2.1 = a := ⟨_, rfl⟩
    obtain ⟨a3, h3⟩ : ∃ a, bts x.2.2.2.1 = a := ⟨_, rfl⟩
    obtain ⟨a5, h5⟩ : ∃ a, bts x.2.2.2.2.2 = a := ⟨_, rfl⟩
    rw [h0] at k0
    rw [h1] at k1
    rw [h2] at k2 c1 c4 s1
    rw [h3] at k3
    rw [h5] at k5 htx
    obtain ⟨Y, hY⟩ : ∃ Y, w.heap.size = Y := ⟨_, rfl⟩
    obtain ⟨W4, hW4⟩ : ∃ W, w.alloc (.cells #[.int .i64 a0, .int .i64 a1, .string a2, .string a3, .slice UA un ucap, .string a5] 32) = W := ⟨_, rfl⟩
    have B4 : Hid (Below w.heap.size w W4) := by rw [← hW4]; exact (Below.refl _ _).alloc (Nat.le_refl _) _
    have hk : Bk W4 Y 32 #[.int .i64 a0, .int .i64 a1, .string a2, .string a3, .slice UA un ucap, .string a5] := by rw [← hW4, ← hY]; exact Bk.new _ _ _
    have y2 : W4.cell? ⟨Y, 2, none⟩ = some (.string a2) := hk.cell 2
    have y5 : W4.cell? ⟨Y, 5, none⟩ = some (.string a5) := hk.cell 5
    have Y2 := Lib.hid y2
    have Y5 := Lib.hid y5
    have HYL : Hid (Y < W4.heap.size) := hk.lt
    have HL := Lib.hid (fun (W : World) (h : Below W4.heap.size W4 W) i => h.cell (p := ⟨Y, i, none⟩) HYL.out)
    have HW4 := Lib.hid hW4
    have HYE := Lib.hid hY
    have HSTP := Lib.hid hstep
    have HC1 := Lib.hid c3
    have HC2 := Lib.hid c4
    clear ih hx hxm hown hlow hx1 hal hown2 hwl hkl hkF hspk hcl hKl hTAl hAAl hHl hEl hTA hE hKK hc hcell hun hn h0 h1 h2 h3 h5 hY hW4 hk y5 hR hS hstep hf c3 c4 hWI hHD
    by_cases hwe : withinT ns f i x = []
    · have gE : WI.toList.isEmpty = true := by rw [c5]; exact decide_eq_true hwe
      have HR : Hid (bts (writeF ns (f + 1) i (spA ns x.1)) = HD ++ ⟨#[47, 62]⟩) := by unfold Hid; rw [HSTP.out, if_pos hwe, HC1.out]
      clear hwe c5
      go_enter Tryd.func13, Tryd.ntmps13
      go_upto_region 2 with fail
      rw [HW4.out, HYE.out]
      clear k0 k1 k2 k3 k4 k5
      go_region_with ((first | (go_at_call 23; refine (hsaid.out _ ?_).mono ?_; exact ⟨B4.out.os, B4.out.tape, B4.out.output, B4.out.size, B4.out.block⟩; rintro e w5 ⟨u5, rfl, hu5, b5⟩; have t5 : Below W4.heap.size W4 w5 := ⟨b5.os, b5.tape, b5.output, b5.size, b5.block⟩; have r5 := (HL.out _ t5 2).trans y2) | (go_at_call 22; refine (hwA.out _ _ ?_).mono ?_; exact hu5; rintro e w6 ⟨rfl, b6⟩; have t6 : Below W4.heap.size W4 w6 := t5.trans ((⟨b6.os, b6.tape, b6.output, b6.size, b6.block⟩ : Below w5.heap.size w5 w6).mono t5.size); have r6 := (HL.out _ t6 2).trans y2)))
      all_goals
        have r65 := (HL.out _ t6 5).trans Y5.out
        go_wp2_with (first | (go_at_call 25; refine (htx.out _).mono ?_; rintro e w7 ⟨rfl, b7⟩; have t7 : Below W4.heap.size W4 w7 := t6.trans ((⟨b7.os, b7.tape, b7.output, b7.size, b7.block⟩ : Below w6.heap.size w6 w7).mono t6.size)) | (go_at_call 27; refine (hkids.out _ (B4.out.trans (t7.mono B4.out.size))).mono ?_; rintro e w8 ⟨⟨kv, rfl, hkv⟩, b8⟩; have t8 : Below W4.heap.size W4 w8 := t7.trans (b8.mono t7.size)) | (go_at_call 26; refine (hwI.out _ _ (B4.out.trans (t8.mono B4.out.size)) hkv.reads).mono ?_; rintro e w9 ⟨rfl, b9⟩; have t9 : Below W4.heap.size W4 w9 := t8.trans (b9.mono t8.size); have r9 := (HL.out _ t9 2).trans Y2.out))
        go_ret
        exact ⟨by rw [HR.out]; rfl, B4.out.trans (t9.mono B4.out.size)⟩
    · have gE : WI.toList.isEmpty = false := by rw [c5]; exact decide_eq_false hwe
      have HR : Hid (bts (writeF ns (f + 1) i (spA ns x.1)) = HD ++ ⟨#[62]⟩ ++ WI ++ ⟨#[60, 47]⟩ ++ a2 ++ ⟨#[62]⟩) := by unfold Hid; rw [HSTP.out, if_neg hwe, HC2.out]
      clear hwe c5
      go_enter Tryd.func13, Tryd.ntmps13
      go_upto_region 2 with fail
      rw [HW4.out, HYE.out]
      clear k0 k1 k2 k3 k4 k5
      go_region_with ((first | (go_at_call 23; refine (hsaid.out _ ?_).mono ?_; exact ⟨B4.out.os, B4.out.tape, B4.out.output, B4.out.size, B4.out.block⟩; rintro e w5 ⟨u5, rfl, hu5, b5⟩; have t5 : Below W4.heap.size W4 w5 := ⟨b5.os, b5.tape, b5.output, b5.size, b5.block⟩; have r5 := (HL.out _ t5 2).trans y2) | (go_at_call 22; refine (hwA.out _ _ ?_).mono ?_; exact hu5; rintro e w6 ⟨rfl, b6⟩; have t6 : Below W4.heap.size W4 w6 := t5.trans ((⟨b6.os, b6.tape, b6.output, b6.size, b6.block⟩ : Below w5.heap.size w5 w6).mono t5.size); have r6 := (HL.out _ t6 2).trans y2)))
      all_goals
        have r65 := (HL.out _ t6 5).trans Y5.out
        go_wp2_with (first | (go_at_call 25; refine (htx.out _).mono ?_; rintro e w7 ⟨rfl, b7⟩; have t7 : Below W4.heap.size W4 w7 := t6.trans ((⟨b7.os, b7.tape, b7.output, b7.size, b7.block⟩ : Below w6.heap.size w6 w7).mono t6.size)) | (go_at_call 27; refine (hkids.out _ (B4.out.trans (t7.mono B4.out.size))).mono ?_; rintro e w8 ⟨⟨kv, rfl, hkv⟩, b8⟩; have t8 : Below W4.heap.size W4 w8 := t7.trans (b8.mono t7.size)) | (go_at_call 26; refine (hwI.out _ _ (B4.out.trans (t8.mono B4.out.size)) hkv.reads).mono ?_; rintro e w9 ⟨rfl, b9⟩; have t9 : Below W4.heap.size W4 w9 := t8.trans (b9.mono t8.size); have r9 := (HL.out _ t9 2).trans Y2.out))
        go_ret
        exact ⟨by rw [HR.out]; rfl, B4.out.trans (t9.mono B4.out.size)⟩
end Go.Proofs.YtbkfmbkamocllaaDoor
