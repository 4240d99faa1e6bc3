/-
  The law TreeTells: whatever tokens, text and nodes came in, the program's tree is the document's.
-/
import Derived.Test.YtpomcamkkcggmaaGreatDoorRtE
import Derived.Test.YtpomcamkkcggmaaGreatDoorRtG
import Derived.Test.YtpomcamkkcggmaaGreatDoorUint
import Derived.Test.YtpomcamkkcggmaaGreatDoorHolds
namespace Go.Proofs.YtpomcamkkcggmaaGreatDoor
open Go.RowKit Tk Tr

theorem attr_modify {s : List UInt8} {x : Nd} : ∀ {l : List Nd} {p : Nat}, x ∈ l.modify p (addText s) → ∃ y ∈ l, x.2.2.2.2.1 = y.2.2.2.2.1
  | [], p, h => by simp at h
  | a :: l, 0, h => by
    rw [List.modify_zero_cons] at h
    rcases List.mem_cons.1 h with rfl | h
    · exact ⟨a, List.mem_cons_self, rfl⟩
    · exact ⟨x, List.mem_cons_of_mem _ h, rfl⟩
  | a :: l, p + 1, h => by
    rw [List.modify_succ_cons] at h
    rcases List.mem_cons.1 h with rfl | h
    · exact ⟨x, List.mem_cons_self, rfl⟩
    · obtain ⟨y, hy, e⟩ := attr_modify h
      exact ⟨y, List.mem_cons_of_mem _ hy, e⟩
theorem run_small (M : Nat) : ∀ (ts : List TokI) (st : St), (∀ t ∈ ts, t.2.2.2.2.1.length ≤ M) → OkS st → (∀ x ∈ st.1, x.2.2.2.2.1.length ≤ M) → OkS (runL st ts).2 ∧ ∀ x ∈ (runL st ts).2.1, x.2.2.2.2.1.length ≤ M
  | [], st, _, h, h2 => ⟨h, h2⟩
  | t :: ts, st, ht, h, h2 => by
    by_cases hb : badL st t = 0
    · rw [run_good hb]
      refine run_small M ts _ (fun u hu => ht u (List.mem_cons_of_mem _ hu)) (h.next hb) (fun x hx => ?_)
      unfold nextL at hx
      split at hx
      · unfold beginL at hx
        simp only at hx
        rcases List.mem_append.1 hx with hx | hx
        · exact h2 x hx
        · rw [List.mem_singleton] at hx
          subst hx
          exact Nat.le_trans (List.length_filter_le _ _) (ht t List.mem_cons_self)
      · split at hx
        · exact h2 x hx
        · unfold sayL at hx
          split at hx
          · simp only at hx
            obtain ⟨y, hy, e⟩ := attr_modify hx
            rw [e]
            exact h2 y hy
          · exact h2 x hx
    · rw [run_bad hb]
      exact ⟨h, h2⟩
theorem done_attr (M : Nat) (els : List Nd) : ∀ (k : Nat) (l : List Nd), (∀ x ∈ l, x.2.2.2.2.1.length ≤ M) → ∀ x ∈ doneF els k l, x.2.2.2.2.1.length ≤ M
  | _, [], _, x, hx => by cases hx
  | k, y :: l, h, x, hx => by
    unfold doneF at hx
    rcases List.mem_cons.1 hx with rfl | hx
    · exact h y List.mem_cons_self
    · exact done_attr M els (k + 1) l (fun z hz => h z (List.mem_cons_of_mem _ hz)) x hx
theorem built_small (M : Nat) (ts : List TokI) (h : ∀ t ∈ ts, t.2.2.2.2.1.length ≤ M) : (buildL ts).1.length ≤ 1000 ∧ ∀ x ∈ (buildL ts).1, x.2.2.2.2.1.length ≤ M := by
  have hr := run_small M ts ([], []) h OkS.nil (fun x hx => by cases hx)
  have hnil : ([] : List Nd).length ≤ 1000 ∧ ∀ x ∈ ([] : List Nd), x.2.2.2.2.1.length ≤ M := ⟨Nat.zero_le _, fun x hx => by cases hx⟩
  unfold buildL
  split
  · exact hnil
  · rename_i st e
    rw [e] at hr
    unfold endL
    split
    · exact hnil
    · unfold finL
      split
      · exact hnil
      · exact ⟨by rw [doneF_len]; exact hr.1.many, done_attr M _ 0 _ hr.2⟩
theorem parsed_small (l : List UInt8) (hl : l.length ≤ 100000) : (parseL l).1.length ≤ 1000 ∧ ∀ x ∈ (parseL l).1, x.2.2.2.2.1.length ≤ 100000 := by
  unfold parseL
  split
  · refine built_small 100000 _ (fun t ht => ?_)
    obtain ⟨k, hk, rfl⟩ := List.mem_map.1 ht
    exact toks_attrs l hl k hk
  · exact ⟨Nat.zero_le _, fun x hx => by cases hx⟩
theorem name_bts (s : ByteArray) : ∃ l, s = bts l := ⟨s.data.toList, bytes_of rfl⟩
set_option maxHeartbeats 8000000 in
set_option maxRecDepth 100000 in
theorem treeTells_any (lv : Value) (ts : List TokI) (s : ByteArray) (nv : Value) (ns : List Nd) (i : Int) (nm : ByteArray) (w : World) (hT : Tabs w) (hE : ErrS w) (hl : ReadI w lv ts) (hlb : ts.length ≤ 1048576) (hbb : bulk ts ≤ 1048576) (hat : ∀ t ∈ ts, t.2.2.2.2.1.length ≤ 1048576)
    (hn : ReadN w nv ns) (hnb : ns.length ≤ 1048576) (hna : ∀ x ∈ ns, x.2.2.2.2.1.length ≤ 1048576) :
    Calls Tryz.prog 3 #[lv, .string s, nv, .int .i64 i, .string nm] w (Holds w) := by
  have HTab := Lib.hid (fun (W : World) (h : Below w.heap.size w W) => And.intro (hT.below h) (hE.below h))
  have HA := Lib.hid (fun (W : World) (h : Below w.heap.size w W) => awakeT_any W (HTab.out W h).1 (HTab.out W h).2)
  by_cases hbig : 100 < ts.length ∨ 3000 < s.size ∨ 100 < ns.length
  · obtain ⟨A1, cap1, rfl, -⟩ := hl
    obtain ⟨A2, cap2, rfl, -⟩ := hn
    obtain ⟨n1, h1⟩ : ∃ n, ts.length = n := ⟨_, rfl⟩
    obtain ⟨n2, h2⟩ : ∃ n, ns.length = n := ⟨_, rfl⟩
    rw [h1] at hbig hlb ⊢
    rw [h2] at hbig hnb ⊢
    have hc : 100 < n1 ∨ (¬ 100 < n1 ∧ 3000 < s.size) ∨ (¬ 100 < n1 ∧ ¬ 3000 < s.size ∧ 100 < n2) := by omega
    clear hT hE hbig h1 h2 hbb hat hna
    rcases hc with c1 | ⟨c1, c2⟩ | ⟨c1, c2, c3⟩
    all_goals
      go_enter Tryz.func3, Tryz.ntmps3
      go_wp2_with (go_at_call 7; refine (HA.out _ (Below.refl _ _)).mono ?_; rintro e w1 ⟨rfl, b1⟩)
      go_ret
      exact ⟨rfl, b1⟩
  obtain ⟨hs1, hs2, hs3⟩ : ts.length ≤ 100 ∧ s.size ≤ 3000 ∧ ns.length ≤ 100 := by omega
  have hsz := Lib.size_eq s
  have HB1 := Lib.hid (build_any lv ts w hl (by omega) (by omega) (fun t ht => by have := hat t ht; omega))
  have HB2 := Lib.hid (fun (W : World) (h : Below w.heap.size w W) => rbuild_any lv ts W (hl.below h) (by omega) (by omega) (fun t ht => by have := hat t ht; omega))
  have HP1 := Lib.hid (fun (W : World) (h : Below w.heap.size w W) => parse_any s W (HTab.out W h).1 (HTab.out W h).2 (by omega))
  have HP2 := Lib.hid (fun (W : World) => rparse_any s W (by omega))
  have hsm := built_small 1048576 ts hat
  have hpm := parsed_small s.data.toList (by omega)
  obtain ⟨O, hO⟩ : ∃ O, buildL ts = O := ⟨_, rfl⟩
  obtain ⟨R, hR⟩ : ∃ R, parseL s.data.toList = R := ⟨_, rfl⟩
  rw [hO] at HB1 HB2 hsm
  rw [hR] at HP1 HP2 hpm
  obtain ⟨on, op, oe⟩ := O
  obtain ⟨rn, rp, re⟩ := R
  simp only at HB1 HB2 HP1 HP2 hsm hpm
  obtain ⟨oz, hoz⟩ : ∃ z : Int, (oe : Int) = z := ⟨_, rfl⟩
  obtain ⟨rz, hrz⟩ : ∃ z : Int, (re : Int) = z := ⟨_, rfl⟩
  have HOZ := Lib.hid hoz
  have HRZ := Lib.hid hrz
  have HS1 := Lib.hid (fun (B : Nat) (v u : Value) (W : World) (hx : OwnN B W v on) (hy : OwnN B W u on) => sameN_any B v u on on W hx hy (by omega) (by omega) (fun t ht => by have := hsm.2 t ht; omega) (fun t ht => by have := hsm.2 t ht; omega))
  have HS2 := Lib.hid (fun (B : Nat) (v u : Value) (W : World) (hx : OwnN B W v rn) (hy : OwnN B W u rn) => sameN_any B v u rn rn W hx hy (by omega) (by omega) (fun t ht => by have := hpm.2 t ht; omega) (fun t ht => by have := hpm.2 t ht; omega))
  simp only [decide_true] at HS1 HS2
  have HK1 := Lib.hid (fun (W : World) (h : Below w.heap.size w W) => kids_any nv ns i W (hn.below h) (by omega))
  have HK2 := Lib.hid (fun (W : World) (h : Below w.heap.size w W) => rkids_any nv ns i W (hn.below h) (by omega))
  have hkl : (kidsL ns i).length ≤ 1000000 := by
    unfold kidsL
    split
    · have := kidsF_len i 0 ns; omega
    · exact Nat.zero_le _
  obtain ⟨ks, hks⟩ : ∃ ks, kidsL ns i = ks := ⟨_, rfl⟩
  rw [hks] at HK1 HK2 hkl
  have HPL := Lib.hid (fun (B : Nat) (v u : Value) (W : World) (hx : Reads B W v ks) (hy : Reads B W u ks) => plain_any B v u ks ks W hx hy (by omega) (by omega))
  simp only [beq_self_eq_true] at HPL
  obtain ⟨nl, rfl⟩ := name_bts nm
  have HAT := Lib.hid (fun (x : Nd) (u : Value) (W : World) (hu : ReadA W u x.2.2.2.2.1) (hx : x ∈ ns) => And.intro (attrTr_any x.1 x.2.1 (bts x.2.2.1) (bts x.2.2.2.1) (bts x.2.2.2.2.2) u x.2.2.2.2.1 nl W hu (by have := hna x hx; omega)) (fun (W' : World) (hb : Below W.heap.size W W') => rattr_of_any x.1 x.2.1 (bts x.2.2.1) (bts x.2.2.2.1) (bts x.2.2.2.2.2) u x.2.2.2.2.1 nl W' (hu.below hb) (by have := hna x hx; omega)))
  obtain ⟨N, hN⟩ : ∃ N, bts nl = N := ⟨_, rfl⟩
  rw [hN] at HAT ⊢
  have HNR := Lib.hid (fun (W : World) (h : Below w.heap.size w W) => hn.below h)
  obtain ⟨A1, cap1, rfl, -⟩ := id hl
  obtain ⟨A2, cap2, rfl, -⟩ := id hn
  obtain ⟨n1, hn1⟩ : ∃ n, ts.length = n := ⟨_, rfl⟩
  obtain ⟨n2, hn2⟩ : ∃ n, ns.length = n := ⟨_, rfl⟩
  rw [hn1] at HB1 HB2 hs1 ⊢
  rw [hn2] at HK1 HK2 HNR hs3 ⊢
  have HN2 := Lib.hid hn2
  clear hT hE hbig hbb hat hl hn hna hlb hnb hsm hpm hO hR hoz hrz hks hkl hN hn1 hn2 hsz
  go_enter Tryz.func3, Tryz.ntmps3
  go_wp2_with fail
  refine HB1.out.mono ?_
  rintro e w1 ⟨⟨v1, rfl, o1⟩, b1⟩
  simp only at o1 ⊢
  rw [HOZ.out]
  obtain ⟨X1, c1, rfl⟩ := o1.slice
  have B1 := Lib.hid b1
  have O1 := Lib.hid o1
  clear b1 o1
  go_wp2_with fail
  refine (HB2.out _ B1.out).mono ?_
  rintro e w2 ⟨⟨v2, rfl, o2⟩, b2⟩
  simp only at o2 ⊢
  rw [HOZ.out]
  obtain ⟨X2, c2, rfl⟩ := o2.slice
  have B2 := Lib.hid (B1.out.trans (b2.mono B1.out.size))
  have O12 := Lib.hid (O1.out.below b2)
  have O2 := Lib.hid (o2.weak B1.out.size)
  clear b2 o2 O1
  go_wp2_with fail
  refine (HP1.out _ B2.out).mono ?_
  rintro e w3 ⟨⟨v3, rfl, o3⟩, b3⟩
  simp only at o3 ⊢
  rw [HRZ.out]
  obtain ⟨X3, c3, rfl⟩ := o3.slice
  have B3 := Lib.hid (B2.out.trans (b3.mono B2.out.size))
  have O13 := Lib.hid (O12.out.below b3)
  have O23 := Lib.hid (O2.out.below b3)
  have O3 := Lib.hid (o3.weak B2.out.size)
  clear b3 o3 O12 O2
  go_wp2_with fail
  refine (HP2.out _).mono ?_
  rintro e w4 ⟨⟨v4, rfl, o4⟩, b4⟩
  simp only at o4 ⊢
  rw [HRZ.out]
  obtain ⟨X4, c4, rfl⟩ := o4.slice
  have B4 := Lib.hid (B3.out.trans (b4.mono B3.out.size))
  have O14 := Lib.hid (O13.out.below b4)
  have O24 := Lib.hid (O23.out.below b4)
  have O34 := Lib.hid (O3.out.below b4)
  have O4 := Lib.hid (o4.weak B3.out.size)
  clear b4 o4 O13 O23 O3
  have hcs : 0 < n2 ∨ ¬ 0 < n2 := Nat.lt_or_ge 0 n2 |>.imp id (by omega)
  rcases hcs with h0 | h0
  case' inr =>
    have BZ := B4
    have Z1 := O14
    have Z2 := O24
    have Z3 := O34
    have Z4 := O4
    clear B1 B2 B3 B4 O14 O24 O34 O4
    go_wp2_with fail
    refine (HA.out _ BZ.out).mono ?_
    rintro e w7 ⟨rfl, b7⟩
  case' inl =>
    obtain ⟨k, hk, hkn⟩ := uintMod' i n2 h0 (by omega)
    have hsn := small_u64 n2 (by omega)
    obtain ⟨ad, rfl, hlb, hc⟩ := (HNR.out w4 B4.out).at (by rw [HN2.out]; exact h0)
    obtain ⟨x, hx⟩ : ∃ x, ns[k]? = some x := ⟨_, List.getElem?_eq_getElem (by rw [HN2.out]; exact hkn)⟩
    obtain ⟨u, hat0, hua⟩ := hc k x hx
    have HAX := HAT.out x u w4 hua (List.mem_of_getElem? hx)
    obtain ⟨k0, k1, k2, k3, k4, k5⟩ := hat0
    obtain ⟨UA, ucap, rfl, -⟩ := hua
    obtain ⟨un, hun⟩ : ∃ un, x.2.2.2.2.1.length = un := ⟨_, rfl⟩
    obtain ⟨a0, h0'⟩ : ∃ a : Int, x.1 = a := ⟨_, rfl⟩
    obtain ⟨a1, h1⟩ : ∃ a : Int, x.2.1 = a := ⟨_, rfl⟩
    obtain ⟨a2, h2⟩ : ∃ a, bts x.2.2.1 = a := ⟨_, rfl⟩
    obtain ⟨a3, h3⟩ : ∃ a, bts x.2.2.2.1 = a := ⟨_, rfl⟩
    obtain ⟨a5, h5⟩ : ∃ a, bts x.2.2.2.2.2 = a := ⟨_, rfl⟩
    obtain ⟨V, hV⟩ : ∃ V, bts (attrOf x.2.2.2.2.1 nl).1 = V := ⟨_, rfl⟩
    obtain ⟨D, hD⟩ : ∃ D, (attrOf x.2.2.2.2.1 nl).2 = D := ⟨_, rfl⟩
    rw [hun, h0', h1, h2, h3, h5, hV, hD] at HAX
    rw [h0'] at k0
    rw [h1] at k1
    rw [h2] at k2
    rw [h3] at k3
    rw [hun] at k4
    rw [h5] at k5
    have HX1 := Lib.hid HAX.1
    have HX2 := Lib.hid HAX.2
    have K0 := Lib.hid k0
    have K1 := Lib.hid k1
    have K2 := Lib.hid k2
    have K3 := Lib.hid k3
    have K4 := Lib.hid k4
    have K5 := Lib.hid k5
    have HLB : Hid ((ad.add (k * 6)).block < w4.heap.size) := by unfold Hid; rw [addBlock]; exact hlb
    clear hc hx HAX hun h0' h1 h2 h3 h5 hV hD hlb HNR HAT
    go_wp2_with fail
    refine HX1.out.mono ?_
    rintro e w5 ⟨rfl, b5⟩
    have B5 := Lib.hid (B4.out.trans (b5.mono B4.out.size))
    have HX3 := Lib.hid (HX2.out _ b5)
    have Y1 := Lib.hid (O14.out.below b5)
    have Y2 := Lib.hid (O24.out.below b5)
    have Y3 := Lib.hid (O34.out.below b5)
    have Y4 := Lib.hid (O4.out.below b5)
    have l0 := (b5.cell (p := ad.add (k * 6)) HLB.out).trans K0.out
    have l1 := (b5.cell (p := ⟨(ad.add (k * 6)).block, (ad.add (k * 6)).off + 1, none⟩) HLB.out).trans K1.out
    have l2 := (b5.cell (p := ⟨(ad.add (k * 6)).block, (ad.add (k * 6)).off + 2, none⟩) HLB.out).trans K2.out
    have l3 := (b5.cell (p := ⟨(ad.add (k * 6)).block, (ad.add (k * 6)).off + 3, none⟩) HLB.out).trans K3.out
    have l4 := (b5.cell (p := ⟨(ad.add (k * 6)).block, (ad.add (k * 6)).off + 4, none⟩) HLB.out).trans K4.out
    have l5 := (b5.cell (p := ⟨(ad.add (k * 6)).block, (ad.add (k * 6)).off + 5, none⟩) HLB.out).trans K5.out
    clear b5 k0 k1 k2 k3 k4 k5 K0 K1 K2 K3 K4 K5 HX1 HX2 O14 O24 O34 O4
    go_wp2_with fail
    refine HX3.out.mono ?_
    rintro e w6 ⟨rfl, b6⟩
    have BZ := Lib.hid (B5.out.trans (b6.mono B5.out.size))
    have Z1 := Lib.hid (Y1.out.below b6)
    have Z2 := Lib.hid (Y2.out.below b6)
    have Z3 := Lib.hid (Y3.out.below b6)
    have Z4 := Lib.hid (Y4.out.below b6)
    have hvv := same_self V
    have hdd : (D != D) = false := by cases D <;> rfl
    clear b6 l0 l1 l2 l3 l4 l5 hk hsn HX3 Y1 Y2 Y3 Y4 B1 B2 B3 B4 B5
    go_wp2_with fail
    refine (HA.out _ BZ.out).mono ?_
    rintro e w7 ⟨rfl, b7⟩
  all_goals
    have B7 := Lib.hid (BZ.out.trans (b7.mono BZ.out.size))
    have Z17 := Lib.hid (Z1.out.below b7)
    have Z27 := Lib.hid (Z2.out.below b7)
    have Z37 := Lib.hid (Z3.out.below b7)
    have Z47 := Lib.hid (Z4.out.below b7)
    clear b7 Z1 Z2 Z3 Z4 BZ HA
    go_wp2_with fail
    refine (HS1.out _ _ _ _ Z17.out Z27.out).mono ?_
    rintro e w8 ⟨rfl, b8⟩
    have B8 := Lib.hid (B7.out.trans (b8.mono B7.out.size))
    have Z38 := Lib.hid (Z37.out.below b8)
    have Z48 := Lib.hid (Z47.out.below b8)
    clear b8 Z17 Z27 Z37 Z47 B7 HS1
    go_wp2_with fail
    refine (HS2.out _ _ _ _ Z38.out Z48.out).mono ?_
    rintro e w9 ⟨rfl, b9⟩
    have B9 := Lib.hid (B8.out.trans (b9.mono B8.out.size))
    clear b9 Z38 Z48 B8 HS2
    go_wp2_with fail
    refine (HK1.out _ B9.out).mono ?_
    rintro e w10 ⟨⟨v10, rfl, o10⟩, b10⟩
    have B10 := Lib.hid (B9.out.trans (b10.mono B9.out.size))
    obtain ⟨KA, kc, rfl⟩ := o10.slice
    have R10 := Lib.hid o10.reads
    clear b10 o10 B9 HK1
    go_wp2_with fail
    refine (HK2.out _ B10.out).mono ?_
    rintro e w11 ⟨⟨v11, rfl, o11⟩, b11⟩
    have B11 := Lib.hid (B10.out.trans (b11.mono B10.out.size))
    obtain ⟨LA, lc, rfl⟩ := o11.slice
    have R11 := Lib.hid o11.reads
    have R10b := Lib.hid ((R10.out.below b11).more b11.size)
    clear b11 o11 B10 HK2 R10
    go_wp2_with fail
    refine (HPL.out _ _ _ _ R10b.out R11.out).mono ?_
    rintro e w12 ⟨rfl, b12⟩
    have B12 := Lib.hid (B11.out.trans (b12.mono B11.out.size))
    clear b12
    go_wp2_with fail
    go_ret
    exact ⟨by simp, B12.out⟩
end Go.Proofs.YtpomcamkkcggmaaGreatDoor
