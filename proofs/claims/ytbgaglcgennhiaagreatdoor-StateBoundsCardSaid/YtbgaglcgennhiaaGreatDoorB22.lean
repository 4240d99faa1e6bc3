import Derived.Test.YtbgaglcgennhiaaGreatDoorB21
import Derived.Test.YtbgaglcgennhiaaGreatDoorB16
/- what is reached of it -/
namespace Go.Proofs.YtbgaglcgennhiaaGreatDoor
open Go.RowKit Rg Tx
set_option maxHeartbeats 1000000 in
theorem besideB_any : Makes 202 Pr.besideBL := by
  intro w
  go_enter Tryz.func202, Tryz.ntmps202
  go_wp2_with fail
  go_ret
  exact ⟨_, rfl, made_of (l := Pr.besideBL) rfl (by unfold Pr.besideBL; simp only [prs_cons, prs_nil]) (by decide)⟩
set_option maxHeartbeats 1000000 in
theorem besideL_any : Makes 192 Pr.besideLL := by
  intro w
  go_enter Tryz.func192, Tryz.ntmps192
  go_wp2_with fail
  go_ret
  exact ⟨_, rfl, made_of (l := Pr.besideLL) rfl (by unfold Pr.besideLL; simp only [prs_cons, prs_nil]) (by decide)⟩
theorem joinL_in {a b : List R} (ha : rightB a = true) (hb : rightB b = true) (c : Int) : inL (joinL a b) c = (inL a c || inL b c) := by
  rcases joinL_is a b with ⟨_, _, _, h⟩ | ⟨h, _⟩
  · exact h c
  · exact absurd ⟨ha, hb⟩ h
theorem wrong1 : (fun c : Nat => inL (joinL bannedL Pr.besideBL) c) = Pr.wrong 1 := by
  funext c
  rw [joinL_in (by decide) (by decide)]
  rfl
theorem wrong2 (c : Nat) : (!inL (joinL (joinL lettersL rightLeftL) Pr.besideLL) c) = Pr.wrong 2 c := by
  rw [joinL_in (joinL_right _ _) (by decide), joinL_in (by decide) (by decide)]
  rfl
theorem fits_banned : Fits bannedL := by unfold Fits Fit bannedL; simp
theorem fits_besideB : Fits Pr.besideBL := by unfold Fits Fit Pr.besideBL; simp
theorem fits_letters : Fits lettersL := by unfold Fits Fit lettersL; simp
theorem fits_rightLeft : Fits rightLeftL := by unfold Fits Fit rightLeftL; simp
theorem fits_besideL : Fits Pr.besideLL := by unfold Fits Fit Pr.besideLL; simp
theorem len_join (a b : List R) (h : a.length + b.length ≤ 100) : (joinL a b).length ≤ 100 := Nat.le_trans (joinL_length a b) h

set_option maxHeartbeats 4000000 in
theorem node_any (s : ByteArray) (w : World) (hT : Tabs w) (hs : s.size ≤ 1000000000) :
    Calls Tryz.prog 164 #[.string s] w fun e w' => e = .returned (prepV 1 s.data.toList) ∧ Below w.heap.size w w' := by
  have H1 := Lib.hid (banned_any w)
  have H2 := Lib.hid besideB_any
  have HJ := Lib.hid (fun (B C : Nat) v u W (h : OwnR B W v bannedL) (h2 : OwnR C W u Pr.besideBL) => join_any v u _ _ W h.reads h2.reads fits_banned fits_besideB (by simp [bannedL]) (by simp [Pr.besideBL]))
  have HW := Lib.hid (fun (B : Nat) v W (h : OwnR B W v (joinL bannedL Pr.besideBL)) => within_any v _ W h.reads (Nat.le_trans (len_join bannedL Pr.besideBL (by decide)) (by decide)))
  rw [wrong1] at HW
  have HK := Lib.hid (fun q W (h : Below w.heap.size w W) (hq : Asks W q (Pr.wrong 1)) => kept_any 1 s (.func (.func 194) #[] #[]) q W (hT.below h) hs (small_adds W) hq)
  obtain ⟨r, hr⟩ : ∃ r, Pr.prepL 1 s.data.toList = r := ⟨_, rfl⟩
  have hv := prepV_of (a := r.1) (n := r.2) hr
  obtain ⟨a, ha⟩ : ∃ a, (⟨r.1.toArray⟩ : ByteArray) = a := ⟨_, rfl⟩
  rw [ha] at hv
  obtain ⟨n, hn⟩ : ∃ n : Int, ((r.2 : Nat) : Int) = n := ⟨_, rfl⟩
  rw [hn] at hv
  rw [hv] at HK ⊢
  obtain ⟨L, hL⟩ : ∃ L, joinL bannedL Pr.besideBL = L := ⟨_, rfl⟩
  rw [hL] at HJ HW
  clear hT hs hr hv ha hn hL
  go_enter Tryz.func164, Tryz.ntmps164
  go_wp2_with fail
  refine H1.out.mono ?_
  rintro e w1 ⟨v1, rfl, o1, b1⟩
  have B1 := Lib.hid b1
  have O1 := Lib.hid o1
  obtain ⟨A1, c1, rfl⟩ := o1.slice
  clear o1 b1
  go_wp2_with fail
  refine (H2.out w1).mono ?_
  rintro e w2 ⟨v2, rfl, o2, b2⟩
  have B2 := Lib.hid (B1.out.trans (b2.mono B1.out.size))
  have P2 := Lib.hid (O1.out.below b2)
  have O2 := Lib.hid o2
  obtain ⟨A2, c2, rfl⟩ := o2.slice
  clear o2 b2
  go_wp2_with fail
  refine (HJ.out _ _ _ _ w2 P2.out O2.out).mono ?_
  rintro e w3 ⟨v3, rfl, o3, b3⟩
  have B3 := Lib.hid (B2.out.trans (b3.mono B2.out.size))
  have O3 := Lib.hid o3
  obtain ⟨A3, c3, rfl⟩ := o3.slice
  clear o3 b3
  go_wp2_with fail
  refine (HW.out _ _ w3 O3.out).mono ?_
  rintro e w4 ⟨v4, rfl, q4, b4⟩
  have B4 := Lib.hid (B3.out.trans (b4.mono B3.out.size))
  have K4 := Lib.hid (HK.out _ w4 B4.out q4)
  obtain ⟨G, gb, rfl, -, -⟩ := q4
  clear b4
  go_wp2_with fail
  refine K4.out.mono ?_
  rintro e w5 ⟨rfl, b5⟩
  have B5 := Lib.hid (B4.out.trans (b5.mono B4.out.size))
  clear b5
  go_wp2_with fail
  go_ret2
  exact ⟨rfl, B5.out⟩

set_option maxHeartbeats 4000000 in
theorem resource_any (s : ByteArray) (w : World) (hT : Tabs w) (hs : s.size ≤ 1000000000) :
    Calls Tryz.prog 186 #[.string s] w fun e w' => e = .returned (prepV 3 s.data.toList) ∧ Below w.heap.size w w' := by
  have H1 := Lib.hid (banned_any w)
  have HW := Lib.hid (fun (B : Nat) v W (h : OwnR B W v bannedL) => within_any v _ W h.reads (by simp [bannedL]))
  have HK := Lib.hid (fun q W (h : Below w.heap.size w W) (hq : Asks W q (fun c : Nat => inL bannedL c)) => kept_any 3 s (.func (.func 213) #[] #[]) q W (hT.below h) hs (same_adds W) hq)
  obtain ⟨r, hr⟩ : ∃ r, Pr.prepL 3 s.data.toList = r := ⟨_, rfl⟩
  have hv := prepV_of (a := r.1) (n := r.2) hr
  obtain ⟨a, ha⟩ : ∃ a, (⟨r.1.toArray⟩ : ByteArray) = a := ⟨_, rfl⟩
  rw [ha] at hv
  obtain ⟨n, hn⟩ : ∃ n : Int, ((r.2 : Nat) : Int) = n := ⟨_, rfl⟩
  rw [hn] at hv
  rw [hv] at HK ⊢
  clear hT hs hr hv ha hn
  go_enter Tryz.func186, Tryz.ntmps186
  go_wp2_with fail
  refine H1.out.mono ?_
  rintro e w1 ⟨v1, rfl, o1, b1⟩
  have B1 := Lib.hid b1
  have O1 := Lib.hid o1
  obtain ⟨A1, c1, rfl⟩ := o1.slice
  clear o1 b1
  go_wp2_with fail
  refine (HW.out _ _ w1 O1.out).mono ?_
  rintro e w4 ⟨v4, rfl, q4, b4⟩
  have B4 := Lib.hid (B1.out.trans (b4.mono B1.out.size))
  have K4 := Lib.hid (HK.out _ w4 B4.out q4)
  obtain ⟨G, gb, rfl, -, -⟩ := q4
  clear b4
  go_wp2_with fail
  refine K4.out.mono ?_
  rintro e w5 ⟨rfl, b5⟩
  have B5 := Lib.hid (B4.out.trans (b5.mono B4.out.size))
  clear b5
  go_wp2_with fail
  go_ret2
  exact ⟨rfl, B5.out⟩

set_option maxHeartbeats 1000000 in
/-- Host's question: the other way round -/
theorem host1_any (g : Nat) (vg : Value) (p : Nat → Bool) (w0 : World) (hq : Asks w0 vg p) (c : Nat) (W : World) (hW : Below w0.heap.size w0 W) (hg : W.cell? ⟨g, 0, none⟩ = some vg) :
    Calls Tryz.prog 195 (#[.int .i64 c] ++ #[.pointer (some ⟨g, 0, none⟩)]) W fun e w' => e = .returned (.bool (!p c)) ∧ Below W.heap.size W w' := by
  obtain ⟨G, gb, rfl, eg, hq⟩ := hq
  have HQ := Lib.hid (hq c W hW)
  clear hq
  obtain ⟨b, hb⟩ : ∃ b, p c = b := ⟨_, rfl⟩
  rw [hb] at HQ ⊢
  clear hb
  cases b
  all_goals
    go_enter Tryz.func195, Tryz.ntmps195
    go_wp2_with fail
    refine HQ.out.mono ?_
    rintro e w2 ⟨rfl, b2⟩
    go_wp2_with fail
    go_ret
    exact ⟨rfl, b2⟩
set_option maxHeartbeats 4000000 in
theorem host_any (s : ByteArray) (w : World) (hT : Tabs w) (hs : s.size ≤ 1000000000) :
    Calls Tryz.prog 158 #[.string s] w fun e w' => e = .returned (prepV 2 s.data.toList) ∧ Below w.heap.size w w' := by
  have H1 := Lib.hid (letters_any w)
  have H2 := Lib.hid rightLeft_any
  have H3 := Lib.hid besideL_any
  have HJ := Lib.hid (fun (B C : Nat) v u W (h : OwnR B W v lettersL) (h2 : OwnR C W u rightLeftL) => join_any v u _ _ W h.reads h2.reads fits_letters fits_rightLeft (by simp [lettersL]) (by simp [rightLeftL]))
  have hJ2 := len_join lettersL rightLeftL (by decide)
  have HJ2 := Lib.hid (fun (B C : Nat) v u W (h : OwnR B W v (joinL lettersL rightLeftL)) (h2 : OwnR C W u Pr.besideLL) => join_any v u _ _ W h.reads h2.reads (joinL_fits fits_letters fits_rightLeft) fits_besideL (by omega) (by simp [Pr.besideLL]))
  have hJ3 := joinL_length (joinL lettersL rightLeftL) Pr.besideLL
  have hJ4 : Pr.besideLL.length = 2 := rfl
  have HW := Lib.hid (fun (B : Nat) v W (h : OwnR B W v (joinL (joinL lettersL rightLeftL) Pr.besideLL)) => within_any v _ W h.reads (by omega))
  have HK := Lib.hid (fun q W (h : Below w.heap.size w W) (hq : Asks W q (Pr.wrong 2)) => kept_any 2 s (.func (.func 194) #[] #[]) q W (hT.below h) hs (small_adds W) hq)
  have HWR := Lib.hid wrong2
  have eg : Hid (∀ args W, (callFunc 195 args).run Tryz.prog W = .ok (.enter 195 args) W) := Go.Proofs.enters_of Tryz.func195 (by kernel_rfl) rfl
  obtain ⟨r, hr⟩ : ∃ r, Pr.prepL 2 s.data.toList = r := ⟨_, rfl⟩
  have hv := prepV_of (a := r.1) (n := r.2) hr
  obtain ⟨a, ha⟩ : ∃ a, (⟨r.1.toArray⟩ : ByteArray) = a := ⟨_, rfl⟩
  rw [ha] at hv
  obtain ⟨n, hn⟩ : ∃ n : Int, ((r.2 : Nat) : Int) = n := ⟨_, rfl⟩
  rw [hn] at hv
  rw [hv] at HK ⊢
  obtain ⟨L, hL⟩ : ∃ L, joinL lettersL rightLeftL = L := ⟨_, rfl⟩
  rw [hL] at HJ HJ2 HW HWR
  obtain ⟨M, hM⟩ : ∃ M, joinL L Pr.besideLL = M := ⟨_, rfl⟩
  rw [hM] at HJ2 HW HWR
  clear hT hs hr hv ha hn hL hM hJ2 hJ3 hJ4
  go_enter Tryz.func158, Tryz.ntmps158
  go_wp2_with fail
  refine H1.out.mono ?_
  rintro e w1 ⟨v1, rfl, o1, b1⟩
  have B1 := Lib.hid b1
  have O1 := Lib.hid o1
  obtain ⟨A1, c1, rfl⟩ := o1.slice
  clear o1 b1
  go_wp2_with fail
  refine (H2.out w1).mono ?_
  rintro e w2 ⟨v2, rfl, o2, b2⟩
  have B2 := Lib.hid (B1.out.trans (b2.mono B1.out.size))
  have P2 := Lib.hid (O1.out.below b2)
  have O2 := Lib.hid o2
  obtain ⟨A2, c2, rfl⟩ := o2.slice
  clear o2 b2
  go_wp2_with fail
  refine (HJ.out _ _ _ _ w2 P2.out O2.out).mono ?_
  rintro e w3 ⟨v3, rfl, o3, b3⟩
  have B3 := Lib.hid (B2.out.trans (b3.mono B2.out.size))
  have O3 := Lib.hid o3
  obtain ⟨A3, c3, rfl⟩ := o3.slice
  clear o3 b3
  go_wp2_with fail
  refine (H3.out w3).mono ?_
  rintro e w4 ⟨v4, rfl, o4, b4⟩
  have B4 := Lib.hid (B3.out.trans (b4.mono B3.out.size))
  have P4 := Lib.hid (O3.out.below b4)
  have O4 := Lib.hid o4
  obtain ⟨A4, c4, rfl⟩ := o4.slice
  clear o4 b4
  go_wp2_with fail
  refine (HJ2.out _ _ _ _ w4 P4.out O4.out).mono ?_
  rintro e w5 ⟨v5, rfl, o5, b5⟩
  have B5 := Lib.hid (B4.out.trans (b5.mono B4.out.size))
  have O5 := Lib.hid o5
  obtain ⟨A5, c5, rfl⟩ := o5.slice
  clear o5 b5
  go_wp2_with fail
  refine (HW.out _ _ w5 O5.out).mono ?_
  rintro e w6 ⟨v6, rfl, q6, b6⟩
  have B6 := Lib.hid (B5.out.trans (b6.mono B5.out.size))
  have Q6 := Lib.hid q6
  obtain ⟨G, gb, rfl, -, -⟩ := q6
  obtain ⟨w7, hw7⟩ : ∃ w7, w6.alloc (.cells #[.func (.func G) #[] gb] 147) = w7 := ⟨_, rfl⟩
  have hb7 : Below w6.heap.size w6 w7 := by rw [← hw7]; exact (Below.refl _ w6).alloc (Nat.le_refl _) _
  have hk7 : Bk w7 w6.heap.size 147 #[.func (.func G) #[] gb] := by rw [← hw7]; exact Bk.new w6 _ _
  have hs7 : w7.heap.size = w6.heap.size + 1 := by rw [← hw7, World.size_alloc]
  have B7 := Lib.hid (B6.out.trans (hb7.mono B6.out.size))
  have Q7 : Asks w7 (.func (.func 195) #[] #[.pointer (some ⟨w6.heap.size, 0, none⟩)]) (Pr.wrong 2) := by
    refine ⟨_, _, rfl, eg.out, fun c W hW => ?_⟩
    rw [← HWR.out]
    exact host1_any w6.heap.size _ (fun c : Nat => inL M c) w7 (Q6.out.below hb7) c W hW ((hk7.below hW (by omega)).cell 0)
  have K7 := Lib.hid (HK.out _ w7 B7.out Q7)
  rw [← hw7] at K7 B7
  clear b6 hb7 hk7 hs7 Q7 hw7
  go_wp2_with fail
  refine K7.out.mono ?_
  rintro e w8 ⟨rfl, b8⟩
  have B8 := Lib.hid (B7.out.trans (b8.mono B7.out.size))
  clear b8
  go_wp2_with fail
  go_ret2
  exact ⟨rfl, B8.out⟩
end Go.Proofs.YtbgaglcgennhiaaGreatDoor
