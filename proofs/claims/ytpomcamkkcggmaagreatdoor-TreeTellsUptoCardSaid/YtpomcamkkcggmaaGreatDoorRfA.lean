/- Texts laid together: RfA RfB -/
import Derived.Test.YtpomcamkkcggmaaGreatDoorTkV
/-
  cardexref08: blanks, a mark, a name.
-/
namespace Go.Proofs.YtpomcamkkcggmaaGreatDoor
open Go.RowKit Tk

theorem lett_int (c : UInt8) : lett c = ((decide ((c.toNat : Int) ≥ 65) && decide ((c.toNat : Int) ≤ 90)) || (decide ((c.toNat : Int) ≥ 97) && decide ((c.toNat : Int) ≤ 122))) := by
  have H : ∀ k : Fin 256, lett (UInt8.ofNat k.val) = ((decide ((k.val : Int) ≥ 65) && decide ((k.val : Int) ≤ 90)) || (decide ((k.val : Int) ≥ 97) && decide ((k.val : Int) ≤ 122))) := by decide +kernel
  have h := H ⟨c.toNat, c.toNat_lt⟩
  simpa using h
theorem wi_lett (c : UInt8) : wi c = (lett c || ((c.toNat : Int) == 95) || (decide ((c.toNat : Int) ≥ 48) && decide ((c.toNat : Int) ≤ 57)) || ((c.toNat : Int) == 45) || ((c.toNat : Int) == 46)) := by
  have H : ∀ k : Fin 256, wi (UInt8.ofNat k.val) = (lett (UInt8.ofNat k.val) || ((k.val : Int) == 95) || (decide ((k.val : Int) ≥ 48) && decide ((k.val : Int) ≤ 57)) || ((k.val : Int) == 45) || ((k.val : Int) == 46)) := by decide +kernel
  have h := H ⟨c.toNat, c.toNat_lt⟩
  simpa using h
theorem beg_lett (c : UInt8) : beg c = (lett c || ((c.toNat : Int) == 95)) := by
  have H : ∀ k : Fin 256, beg (UInt8.ofNat k.val) = (lett (UInt8.ofNat k.val) || ((k.val : Int) == 95)) := by decide +kernel
  have h := H ⟨c.toNat, c.toNat_lt⟩
  simpa using h
set_option maxHeartbeats 400000 in
theorem rblank_any (c : UInt8) (w : World) : Calls Tryz.prog 38 #[.int .u8 c.toNat] w fun e w' => e = .returned (.bool (bl c)) ∧ w' = w := by
  rw [bl_int c]
  obtain ⟨z, hz⟩ : ∃ z : Int, (c.toNat : Int) = z := ⟨_, rfl⟩
  rw [hz]
  clear hz
  go_enter Tryz.func38, Tryz.ntmps38
  go_wp2
  all_goals
    go_ret
    exact ⟨ret_bool (by first | rfl | (rw [Bool.eq_iff_iff]; simp; done) | (rw [Bool.eq_iff_iff]; simp; omega)), rfl⟩
set_option maxHeartbeats 400000 in
theorem rletter_any (c : UInt8) (w : World) : Calls Tryz.prog 113 #[.int .u8 c.toNat] w fun e w' => e = .returned (.bool (lett c)) ∧ w' = w := by
  rw [lett_int c]
  obtain ⟨z, hz⟩ : ∃ z : Int, (c.toNat : Int) = z := ⟨_, rfl⟩
  rw [hz]
  clear hz
  go_enter Tryz.func113, Tryz.ntmps113
  go_wp2
  all_goals
    go_ret
    exact ⟨ret_bool (by first | rfl | (rw [Bool.eq_iff_iff]; simp; done) | (rw [Bool.eq_iff_iff]; simp; omega)), rfl⟩
set_option maxHeartbeats 400000 in
theorem rwithin_any (c : UInt8) (w : World) : Calls Tryz.prog 90 #[.int .u8 c.toNat] w fun e w' => e = .returned (.bool (wi c)) ∧ w' = w := by
  have HB := Lib.hid (rletter_any c w)
  rw [wi_lett c]
  obtain ⟨q, hq⟩ : ∃ q, lett c = q := ⟨_, rfl⟩
  rw [hq] at HB ⊢
  obtain ⟨z, hz⟩ : ∃ z : Int, (c.toNat : Int) = z := ⟨_, rfl⟩
  rw [hz] at HB ⊢
  clear hz hq
  go_enter Tryz.func90, Tryz.ntmps90
  go_wp2_with (go_at_call 113; refine HB.out.mono ?_; rintro e w1 ⟨rfl, rfl⟩)
  all_goals
    go_ret
    exact ⟨ret_bool (by first | rfl | (rw [Bool.eq_iff_iff]; simp_all; done) | (rw [Bool.eq_iff_iff]; simp_all; omega)), rfl⟩
set_option maxHeartbeats 2000000 in
theorem rblanks_any (T : Nat) (s : ByteArray) (r : List UInt8) (w : World) (h : TX 84 w T s r) (hs : s.size ≤ 100000000) :
    Calls Tryz.prog 66 #[.pointer (some ⟨T, 0, none⟩)] w fun e w' => e = .returned (.int .i64 ((r.takeWhile bl).length : Nat)) ∧ TX 84 w' T s (r.dropWhile bl) ∧ Tn T w.heap.size w w' := by
  obtain ⟨k, hk, rfl, hb⟩ := h
  have c0 : w.cell? ⟨T, 0, none⟩ = some (.string s) := hb.cell 0
  have c1 : w.cell? ⟨T, 1, none⟩ = some (.int .i64 k) := hb.cell 1
  have HB := Lib.hid hb
  have HSZ := Lib.hid (Lib.size_eq s)
  have HE := Lib.hid (fun (j : Nat) (a : k ≤ j) (b : j ≤ s.data.toList.length) c d => run_end (p := bl) (l := s.data.toList) (k := k) (j := j) a b c d)
  have HPL := Lib.hid (fun (j : Nat) (W : World) (h : Bk W T 84 #[.string s, .int .i64 j]) => place_of h)
  have hT := hb.lt
  clear hb
  go_enter Tryz.func66, Tryz.ntmps66
  go_wp2_with fail
  clear c0 c1
  go_loopw [3] (fun nv wr => ∃ (j n : Nat), k ≤ j ∧ j ≤ s.size ∧ nv = .int .i64 n ∧ Hid (n = j - k) ∧ n ≤ s.size ∧ Hid (∀ i, k ≤ i → i < j → bl (s.data.toList.getD i 0) = true) ∧ Hid (Bk wr T 84 #[.string s, .int .i64 j]) ∧ Hid (Tn T w.heap.size w wr)) (fun _ wr => s.size - placeOf T wr)
  case atStart => exact ⟨k, 0, Nat.le_refl _, hk, rfl, (by unfold Hid; omega), Nat.zero_le _, Lib.hid (fun i h1 h2 => by omega), HB.out, Tn.refl _ _ _⟩
  case round =>
    obtain ⟨j, n, hkj, hjs, rfl, hnj, hns, hall, hbk, htn⟩ := hrel
    have hpl := Lib.hid (HPL.out j wr hbk.out)
    have d0 : wr.cell? ⟨T, 0, none⟩ = some (.string s) := hbk.out.cell 0
    have d1 : wr.cell? ⟨T, 1, none⟩ = some (.int .i64 j) := hbk.out.cell 1
    have g1 : wr.frozen? ⟨T, 1, none⟩ = false := hbk.out.free 1
    by_cases hlt : j < s.size
    · have gB : decide ((j : Int) < (s.size : Int)) = true := decide_eq_true (by omega)
      have hgd : Hid (s.data.toList.getD j 0 = s[j]'hlt) := by
        unfold Hid
        rw [List.getD_eq_getElem?_getD, Lib.data_getElem? s j hlt]
        rfl
      obtain ⟨c, hc⟩ : ∃ c : UInt8, s[j]'hlt = c := ⟨_, rfl⟩
      have HC := Lib.hid (hgd.out.trans hc)
      have HQ := Lib.hid (rblank_any c)
      have hnl : n < s.size := by have := hnj.out; omega
      cases hpc : bl c with
      | true =>
        rw [hpc] at HQ
        have hall2 : Hid (∀ i, k ≤ i → i < j + 1 → bl (s.data.toList.getD i 0) = true) := fun i h1 h2 => by
          rcases Nat.lt_or_ge i j with h | h
          · exact hall.out i h1 h
          · obtain rfl : i = j := by omega
            rw [HC.out]; exact hpc
        have hnj2 : Hid (n + 1 = j + 1 - k) := by have := hnj.out; unfold Hid; omega
        clear hpc hgd
        go_wp2_with fail
        go_quiet ((go_at_call 38; exact Calls.quiet_of_same (HQ.out _)))
        go_wp2_with fail
        go_roundw
        case rel => exact ⟨j + 1, n + 1, by omega, by omega, by go_num, hnj2, by omega, hall2, (hbk.out.drewN _).place _, (htn.out.drewN _).set _ _⟩
        case measure => rw [place_of hbk.out, place_set (hbk.out.drewN _)]; omega
      | false =>
        rw [hpc] at HQ
        have hE := Lib.hid (HE.out j hkj (by have := HSZ.out; omega) hall.out (fun _ => by rw [HC.out]; exact hpc))
        have hln : Hid (((s.data.toList.drop k).takeWhile bl).length = n) := by
          unfold Hid
          rw [hE.out.1, List.length_take, List.length_drop, hnj.out, ← HSZ.out]
          omega
        clear hpc hgd
        go_wp2_with fail
        go_quiet ((go_at_call 38; exact Calls.quiet_of_same (HQ.out _)))
        go_wp2_with fail
        go_ret
        exact ⟨by rw [hln.out]; rfl, ⟨j, hjs, hE.out.2, hbk.out.drewN _⟩, htn.out.drewN _⟩
    · have gB : decide ((j : Int) < (s.size : Int)) = false := decide_eq_false (by omega)
      have hE := Lib.hid (HE.out j hkj (by have := HSZ.out; omega) hall.out (fun h => by have := HSZ.out; omega))
      have hln : Hid (((s.data.toList.drop k).takeWhile bl).length = n) := by
        unfold Hid
        rw [hE.out.1, List.length_take, List.length_drop, hnj.out, ← HSZ.out]
        omega
      go_wp2_with fail
      go_quiet (fail)
      go_wp2_with fail
      go_ret
      exact ⟨by rw [hln.out]; rfl, ⟨j, hjs, hE.out.2, hbk.out.drewN _⟩, htn.out.drewN _⟩
theorem prefix_take {m l : List UInt8} : m.isPrefixOf l = (decide (m.length ≤ l.length) && (l.take m.length == m)) := by
  rw [Bool.eq_iff_iff, List.isPrefixOf_iff_prefix]
  simp only [Bool.and_eq_true, decide_eq_true_eq, beq_iff_eq]
  constructor
  · rintro ⟨t, rfl⟩
    exact ⟨by simp, List.take_left' rfl⟩
  · rintro ⟨h1, h2⟩
    have h3 := List.take_append_drop m.length l
    rw [h2] at h3
    exact ⟨l.drop m.length, h3⟩
set_option maxHeartbeats 2000000 in
theorem ris_any (T : Nat) (s m : ByteArray) (r : List UInt8) (w : World) (h : TX 84 w T s r) (hs : s.size ≤ 100000000) (hm : m.size ≤ 1000) :
    Calls Tryz.prog 46 #[.pointer (some ⟨T, 0, none⟩), .string m] w fun e w' => e = .returned (.bool (m.data.toList.isPrefixOf r)) ∧ TX 84 w' T s (over m.data.toList r) ∧ Tn T w.heap.size w w' := by
  obtain ⟨k, hk, rfl, hb⟩ := h
  have c0 : w.cell? ⟨T, 0, none⟩ = some (.string s) := hb.cell 0
  have c1 : w.cell? ⟨T, 1, none⟩ = some (.int .i64 k) := hb.cell 1
  have f1 : w.frozen? ⟨T, 1, none⟩ = false := hb.free 1
  have HB := Lib.hid hb
  have HL := Lib.hid (Lib.size_eq m)
  have HSZ := Lib.hid (Lib.size_eq s)
  have hpt := prefix_take (m := m.data.toList) (l := s.data.toList.drop k)
  rw [List.length_drop, ← HSZ.out, ← HL.out] at hpt
  by_cases hle : k + m.size ≤ s.size
  · have gB : decide (s.size < k + m.size) = false := decide_eq_false (by omega)
    have gB2 : decide ((k : Int) + (m.size : Int) > (s.size : Int)) = false := decide_eq_false (by omega)
    have hex : ((s.extract k (k + m.size)).toList == m.toList) = m.data.toList.isPrefixOf (s.data.toList.drop k) := by
      rw [hpt, decide_eq_true (by omega), Bool.true_and]
      have e1 : (s.extract k (k + m.size)).data.toList = (s.data.toList.drop k).take m.size := by rw [Lib.extract_data, Nat.add_sub_cancel_left]
      rw [show (s.extract k (k + m.size)).toList = (s.extract k (k + m.size)).data.toList from by
        conv => lhs; rw [show s.extract k (k + m.size) = (⟨(s.extract k (k + m.size)).data.toList.toArray⟩ : ByteArray) from rfl]
        rw [ByteArray.toList_mk]]
      rw [show m.toList = m.data.toList from by
        conv => lhs; rw [show m = (⟨m.data.toList.toArray⟩ : ByteArray) from rfl]
        rw [ByteArray.toList_mk]]
      rw [e1]
    obtain ⟨p, hp⟩ : ∃ p, m.data.toList.isPrefixOf (s.data.toList.drop k) = p := ⟨_, rfl⟩
    rw [hp] at hex
    have HP := Lib.hid hp
    cases p with
    | false =>
      have e1 : over m.data.toList (s.data.toList.drop k) = s.data.toList.drop k := by unfold over; rw [hp]; rfl
      rw [e1, hp]
      clear hb hp e1 hpt
      go_enter Tryz.func46, Tryz.ntmps46
      go_wp2_with fail
      go_quiet (fail)
      go_wp2_with fail
      go_ret
      exact ⟨rfl, ⟨k, hk, rfl, HB.out⟩, (Tn.refl _ _ _).drewN _⟩
    | true =>
      have e1 : over m.data.toList (s.data.toList.drop k) = s.data.toList.drop (k + m.size) := by unfold over; rw [hp, if_pos rfl, List.drop_drop, HL.out]
      rw [e1, hp]
      clear hb hp e1 hpt
      go_enter Tryz.func46, Tryz.ntmps46
      go_wp2_with fail
      go_quiet (fail)
      go_wp2_with fail
      go_ret
      exact ⟨rfl, ⟨k + m.size, hle, rfl, (HB.out.drewN _).place _⟩, ((Tn.refl _ _ _).drewN _).set _ _⟩
  · have gB : decide (s.size < k + m.size) = true := decide_eq_true (by omega)
    have gB2 : decide ((k : Int) + (m.size : Int) > (s.size : Int)) = true := decide_eq_true (by omega)
    have hp : m.data.toList.isPrefixOf (s.data.toList.drop k) = false := by rw [hpt, decide_eq_false (by omega), Bool.false_and]
    have e1 : over m.data.toList (s.data.toList.drop k) = s.data.toList.drop k := by unfold over; rw [hp]; rfl
    rw [e1, hp]
    clear hb hp e1 hpt
    go_enter Tryz.func46, Tryz.ntmps46
    go_wp2_with fail
    go_quiet (fail)
    go_wp2_with fail
    go_ret
    exact ⟨rfl, ⟨k, hk, rfl, HB.out⟩, (Tn.refl _ _ _).drewN _⟩
end Go.Proofs.YtpomcamkkcggmaaGreatDoor
/-
  cardexref08: a name.
-/
namespace Go.Proofs.YtpomcamkkcggmaaGreatDoor
open Go.RowKit Tk

/-- Is it a name? -/
def nameB (l : List UInt8) : Bool := l.all wi && (match l with
  | c :: _ => beg c
  | [] => false)
theorem first_get {s : ByteArray} (h : 0 < s.size) : ∃ t, s.data.toList = (s[0]'h) :: t := by
  have := first_drop h
  rw [List.drop_zero] at this
  exact ⟨_, this⟩
theorem nonempty_size {s : ByteArray} : s.toList.isEmpty = decide (s.size = 0) := by
  rw [show s = (⟨s.data.toList.toArray⟩ : ByteArray) from rfl, ByteArray.toList_mk, Lib.size_eq]
  cases s.data.toList with
  | nil => rfl
  | cons c t => simp
set_option maxHeartbeats 2000000 in
theorem rName_any (s : ByteArray) (w : World) (hs : s.size ≤ 100000000) (hall : s.data.toList.all wi = true) :
    Calls Tryz.prog 91 #[.string s] w fun e w' => e = .returned (.bool (nameB s.data.toList)) ∧ w' = w := by
  have HSZ := Lib.hid (Lib.size_eq s)
  have HALL : Hid (∀ k (h : k < s.size), wi (s[k]'h) = true) := fun k h => by
    rw [List.all_eq_true] at hall
    refine hall _ ?_
    have := Lib.data_getElem? s k h
    exact List.mem_of_getElem? this
  have hNB : Hid (nameB s.data.toList = (match s.data.toList with
    | c :: _ => beg c
    | [] => false)) := by unfold Hid nameB; rw [hall]; rfl
  have hemp := nonempty_size (s := s)
  by_cases h0 : 0 < s.size
  · obtain ⟨t, ht⟩ := first_get h0
    obtain ⟨c, hc⟩ : ∃ c : UInt8, s[0]'h0 = c := ⟨_, rfl⟩
    rw [hc] at ht
    rw [hNB.out, ht]
    simp only
    have hemp2 : s.toList.isEmpty = false := by rw [hemp]; exact decide_eq_false (by omega)
    have HLT := Lib.hid (rletter_any c)
    have hbl := beg_lett c
    obtain ⟨z, hz⟩ : ∃ z : Int, (c.toNat : Int) = z := ⟨_, rfl⟩
    have hcz : ((s[0]'h0).toNat : Int) = z := by rw [hc]; exact hz
    rw [hz] at hbl
    obtain ⟨l, hl⟩ : ∃ l, lett c = l := ⟨_, rfl⟩
    rw [hl] at hbl HLT
    rw [hbl]
    rw [hz] at HLT
    clear hemp ht hc hz hl hbl hall hNB
    go_enter Tryz.func91, Tryz.ntmps91
    go_wp2_with fail
    go_loop [3] (fun iv => ∃ k : Nat, k ≤ s.size ∧ iv = .int .i64 k) (fun iv => s.size - (intOf iv).toNat)
    case atStart => exact ⟨0, Nat.zero_le _, rfl⟩
    case round =>
      obtain ⟨k, hk, rfl⟩ := hrel
      by_cases hlt : k < s.size
      · have HW := Lib.hid (rwithin_any (s[k]'hlt) w)
        rw [HALL.out k hlt] at HW
        obtain ⟨y, hy⟩ : ∃ y : Int, ((s[k]'hlt).toNat : Int) = y := ⟨_, rfl⟩
        rw [hy] at HW
        go_wp2_with (go_at_call 90; refine HW.out.mono ?_; rintro e w1 ⟨rfl, rfl⟩)
        go_round
        case rel => exact ⟨k + 1, by omega, by go_num⟩
        case measure => simp [intOf]; omega
      · cases l with
        | true =>
          go_wp2_with (go_at_call 113; refine (HLT.out _).mono ?_; rintro e w1 ⟨rfl, rfl⟩)
          go_ret
          exact ⟨by simp, rfl⟩
        | false =>
          go_wp2_with (go_at_call 113; refine (HLT.out _).mono ?_; rintro e w1 ⟨rfl, rfl⟩)
          go_ret
          exact ⟨by simp, rfl⟩
  · have ht : s.data.toList = [] := List.eq_nil_of_length_eq_zero (by rw [← HSZ.out]; omega)
    rw [hNB.out, ht]
    simp only
    have hemp2 : s.toList.isEmpty = true := by rw [hemp]; exact decide_eq_true (by omega)
    have hs0 : s.size = 0 := by omega
    clear hemp ht hall hNB h0
    go_enter Tryz.func91, Tryz.ntmps91
    go_wp2_with fail
    go_loop [3] (fun iv => ∃ k : Nat, k ≤ s.size ∧ iv = .int .i64 k) (fun iv => s.size - (intOf iv).toNat)
    case atStart => exact ⟨0, Nat.zero_le _, rfl⟩
    case round =>
      obtain ⟨k, hk, rfl⟩ := hrel
      obtain rfl : k = 0 := by omega
      go_wp2_with fail
      go_ret
      exact ⟨rfl, rfl⟩
theorem name_while (l : List UInt8) : nameB (l.takeWhile wi) = !(nameL l).1.isEmpty ∧ (nameB (l.takeWhile wi) = true → (nameL l) = (l.takeWhile wi, l.dropWhile wi)) ∧ (nameB (l.takeWhile wi) = false → (nameL l).1 = []) := by
  have hall : (l.takeWhile wi).all wi = true := by rw [List.all_eq_true]; exact all_while wi l
  unfold nameB
  rw [hall, Bool.true_and]
  cases l with
  | nil => exact ⟨rfl, (fun h => by cases h), fun _ => rfl⟩
  | cons c t =>
    cases hb : beg c with
    | true =>
      have hw := (beg_facts hb).2
      rw [name_yes hb, List.takeWhile_cons, hw]
      simp [hb]
    | false =>
      rw [name_no hb]
      cases hw : wi c with
      | true =>
        rw [List.takeWhile_cons, hw]
        simp [hb]
      | false =>
        rw [List.takeWhile_cons, hw]
        simp
set_option maxHeartbeats 2000000 in
theorem rname_any (T : Nat) (s : ByteArray) (r : List UInt8) (w : World) (h : TX 84 w T s r) (hs : s.size ≤ 100000000) :
    Calls Tryz.prog 65 #[.pointer (some ⟨T, 0, none⟩)] w fun e w' => e = .returned (.string (bts (nameL r).1)) ∧ (∃ r', TX 84 w' T s r' ∧ ((nameL r).1 ≠ [] → r' = (nameL r).2)) ∧ Tn T w.heap.size w w' := by
  obtain ⟨k, hk, hr, hb⟩ := h
  have c0 : w.cell? ⟨T, 0, none⟩ = some (.string s) := hb.cell 0
  have c1 : w.cell? ⟨T, 1, none⟩ = some (.int .i64 k) := hb.cell 1
  have HB := Lib.hid hb
  have HSZ := Lib.hid (Lib.size_eq s)
  have HE := Lib.hid (fun (j : Nat) (a : k ≤ j) (b : j ≤ s.data.toList.length) c d => run_end (p := wi) (l := s.data.toList) (k := k) (j := j) a b c d)
  have HPL := Lib.hid (fun (j : Nat) (W : World) (h : Bk W T 84 #[.string s, .int .i64 j]) => place_of h)
  have HNW := Lib.hid (name_while r)
  have HTW : Hid ((bts (r.takeWhile wi)).size ≤ s.size) := by
    unfold Hid
    rw [Lib.size_eq]
    have := while_len wi r
    rw [hr, List.length_drop, ← HSZ.out] at this
    rw [hr]
    show (List.takeWhile wi _).length ≤ _
    omega
  have HNM := Lib.hid (fun W => rName_any (bts (r.takeWhile wi)) W (by have := HTW.out; omega) (by rw [List.all_eq_true]; exact all_while wi r))
  rw [show (bts (r.takeWhile wi)).data.toList = r.takeWhile wi from rfl] at HNM
  have HR := Lib.hid hr
  have hT := hb.lt
  clear hb hr
  go_enter Tryz.func65, Tryz.ntmps65
  go_wp2_with fail
  clear c0 c1
  go_loopw [] (fun wr => ∃ (j : Nat), k ≤ j ∧ j ≤ s.size ∧ Hid (∀ i, k ≤ i → i < j → wi (s.data.toList.getD i 0) = true) ∧ Hid (Bk wr T 84 #[.string s, .int .i64 j]) ∧ Hid (Tn T w.heap.size w wr)) (fun wr => s.size - placeOf T wr)
  case atStart => exact ⟨k, Nat.le_refl _, hk, Lib.hid (fun i h1 h2 => by omega), HB.out, Tn.refl _ _ _⟩
  case round =>
    obtain ⟨j, hkj, hjs, hall, hbk, htn⟩ := hrel
    have hpl := Lib.hid (HPL.out j wr hbk.out)
    have d0 : wr.cell? ⟨T, 0, none⟩ = some (.string s) := hbk.out.cell 0
    have d1 : wr.cell? ⟨T, 1, none⟩ = some (.int .i64 j) := hbk.out.cell 1
    have g1 : wr.frozen? ⟨T, 1, none⟩ = false := hbk.out.free 1
    by_cases hlt : j < s.size
    · have gB : decide ((j : Int) < (s.size : Int)) = true := decide_eq_true (by omega)
      have hgd : Hid (s.data.toList.getD j 0 = s[j]'hlt) := by
        unfold Hid
        rw [List.getD_eq_getElem?_getD, Lib.data_getElem? s j hlt]
        rfl
      obtain ⟨c, hc⟩ : ∃ c : UInt8, s[j]'hlt = c := ⟨_, rfl⟩
      have HC := Lib.hid (hgd.out.trans hc)
      have HQ := Lib.hid (rwithin_any c)
      cases hpc : wi c with
      | true =>
        rw [hpc] at HQ
        have hall2 : Hid (∀ i, k ≤ i → i < j + 1 → wi (s.data.toList.getD i 0) = true) := fun i h1 h2 => by
          rcases Nat.lt_or_ge i j with h | h
          · exact hall.out i h1 h
          · obtain rfl : i = j := by omega
            rw [HC.out]; exact hpc
        clear hpc hgd
        go_wp2_with fail
        go_quiet ((go_at_call 90; exact Calls.quiet_of_same (HQ.out _)))
        go_wp2_with fail
        go_roundw
        case rel => exact ⟨j + 1, by omega, by omega, hall2, (hbk.out.drewN _).place _, (htn.out.drewN _).set _ _⟩
        case measure => rw [place_of hbk.out, place_set (hbk.out.drewN _)]; omega
      | false =>
        rw [hpc] at HQ
        have hE := Lib.hid (HE.out j hkj (by have := HSZ.out; omega) hall.out (fun _ => by rw [HC.out]; exact hpc))
        have hcut : Hid (s.extract k j = bts (r.takeWhile wi)) := by unfold Hid; rw [HR.out, hE.out.1]; exact cut_bytes rfl
        clear hpc hgd
        go_wp2_with fail
        go_quiet ((go_at_call 90; exact Calls.quiet_of_same (HQ.out _)))
        go_wp2_with fail
        go_region
        all_goals
          go_wp2_with fail
          rw [hcut.out]
          refine (HNM.out _).mono ?_
          rintro e w3 ⟨rfl, rfl⟩
          cases hn : nameB (r.takeWhile wi) with
          | true =>
            have hN2 := Lib.hid (HNW.out.2.1 hn)
            clear hn
            go_wp2_with fail
            go_ret
            exact ⟨by rw [hN2.out]; first | rfl | (rw [hcut.out]; rfl), ⟨_, ⟨j, hjs, rfl, hbk.out.drewN _⟩, fun _ => by rw [hN2.out, HR.out]; exact hE.out.2.symm⟩, (htn.out.drewN _).drew⟩
          | false =>
            have hN2 := Lib.hid (HNW.out.2.2 hn)
            clear hn
            go_wp2_with fail
            go_ret
            exact ⟨by rw [hN2.out]; rfl, ⟨_, ⟨j, hjs, rfl, hbk.out.drewN _⟩, fun h => absurd hN2.out h⟩, (htn.out.drewN _).drew⟩
    · have gB : decide ((j : Int) < (s.size : Int)) = false := decide_eq_false (by omega)
      have hE := Lib.hid (HE.out j hkj (by have := HSZ.out; omega) hall.out (fun h => by have := HSZ.out; omega))
      have hcut : Hid (s.extract k j = bts (r.takeWhile wi)) := by unfold Hid; rw [HR.out, hE.out.1]; exact cut_bytes rfl
      go_wp2_with fail
      go_quiet (fail)
      go_wp2_with fail
      go_region
      all_goals
        go_wp2_with fail
        rw [hcut.out]
        refine (HNM.out _).mono ?_
        rintro e w3 ⟨rfl, rfl⟩
        cases hn : nameB (r.takeWhile wi) with
        | true =>
          have hN2 := Lib.hid (HNW.out.2.1 hn)
          clear hn
          go_wp2_with fail
          go_ret
          exact ⟨by rw [hN2.out]; first | rfl | (rw [hcut.out]; rfl), ⟨_, ⟨j, hjs, rfl, hbk.out.drewN _⟩, fun _ => by rw [hN2.out, HR.out]; exact hE.out.2.symm⟩, (htn.out.drewN _).drew⟩
        | false =>
          have hN2 := Lib.hid (HNW.out.2.2 hn)
          clear hn
          go_wp2_with fail
          go_ret
          exact ⟨by rw [hN2.out]; rfl, ⟨_, ⟨j, hjs, rfl, hbk.out.drewN _⟩, fun h => absurd hN2.out h⟩, (htn.out.drewN _).drew⟩
end Go.Proofs.YtpomcamkkcggmaaGreatDoor
