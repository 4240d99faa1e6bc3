/-
  package token: a step over a mark, a run of bytes, a name.
-/
import Derived.Test.YtbkfmbkamocllaaGreatDoorTkM
import Derived.Test.YtbkfmbkamocllaaGreatDoorTok
import Derived.Test.YtbkfmbkamocllaaGreatDoorShelf
import Derived.Deep.QuietTactic
import Derived.BigQuiet
import Derived.Lib.IndexBytes
namespace Go.Proofs.YtbkfmbkamocllaaGreatDoor
open Go.RowKit Tk

theorem tx_over {l m : List UInt8} : over m l = if m.isPrefixOf l then l.drop m.length else l := rfl
theorem prefix_len {m l : List UInt8} (h : m.isPrefixOf l = true) : m.length ≤ l.length := by
  rw [List.isPrefixOf_iff_prefix] at h
  exact h.length_le
theorem Bk.drewN {w : World} {g : Nat} {t : TypeId} {cs : Array Value} (h : Bk w g t cs) (n : Nat) : Bk (w.drewN n) g t cs := h
theorem Bk.place {w : World} {g : Nat} {t : TypeId} {u v : Value} (h : Bk w g t #[u, v]) (x : Value) : Bk (w.setCell ⟨g, 1, none⟩ x) g t #[u, x] := by
  have := Bk.put h 1 x
  simpa using this
set_option maxHeartbeats 1000000 in
theorem over_any (T : Nat) (s m : ByteArray) (r : List UInt8) (w : World) (h : TX 58 w T s r) (hs : s.size ≤ 100000000) (hm : m.size ≤ 1000) :
    Calls Tryz.prog 25 #[.pointer (some ⟨T, 0, none⟩), .string m] w fun e w' => e = .returned (.bool (m.data.toList.isPrefixOf r)) ∧ TX 58 w' T s (over m.data.toList r) ∧ Tn T w.heap.size w w' := by
  obtain ⟨k, hk, rfl, hb⟩ := h
  have c0 : w.cell? ⟨T, 0, none⟩ = some (.string s) := hb.cell 0
  have c1 : w.cell? ⟨T, 1, none⟩ = some (.int .i64 k) := hb.cell 1
  have f1 : w.frozen? ⟨T, 1, none⟩ = false := hb.free 1
  have HB := Lib.hid hb
  have HP := Lib.hid (fun (W : World) => Tryz.strings_HasPrefix (s.extract k s.size) m W)
  rw [Lib.extract_to_end] at HP
  have HL := Lib.hid (Lib.size_eq m)
  have HSZ := Lib.hid (Lib.size_eq s)
  cases hp : m.data.toList.isPrefixOf (s.data.toList.drop k) with
  | false =>
    have e1 : over m.data.toList (s.data.toList.drop k) = s.data.toList.drop k := by unfold over; rw [hp]; rfl
    rw [e1]
    have HP2 : Hid (∀ W, Calls Tryz.prog 48 #[.string (s.extract k s.size), .string m] W fun e w' => e = .returned (.bool false) ∧ w' = W) := fun W => (HP.out W).mono (fun e w' h => ⟨by rw [h.1]; unfold Lib.hasPrefix; rw [hp], h.2⟩)
    clear hb HP hp e1
    go_enter Tryz.func25, Tryz.ntmps25
    go_wp2_with fail
    go_quiet ((go_at_call 48; exact Calls.quiet_of_same (HP2.out _)))
    go_wp2_with fail
    go_ret
    exact ⟨rfl, ⟨k, hk, rfl, HB.out⟩, (Tn.refl _ _ _).drewN _⟩
  | true =>
    have e1 : over m.data.toList (s.data.toList.drop k) = s.data.toList.drop (k + m.size) := by unfold over; rw [hp, if_pos rfl, List.drop_drop, HL.out]
    have hle : k + m.size ≤ s.size := by
      have := prefix_len hp
      rw [List.length_drop] at this
      have := HL.out
      have := HSZ.out
      omega
    rw [e1]
    have HP2 : Hid (∀ W, Calls Tryz.prog 48 #[.string (s.extract k s.size), .string m] W fun e w' => e = .returned (.bool true) ∧ w' = W) := fun W => (HP.out W).mono (fun e w' h => ⟨by rw [h.1]; unfold Lib.hasPrefix; rw [hp], h.2⟩)
    clear hb HP hp e1
    go_enter Tryz.func25, Tryz.ntmps25
    go_wp2_with fail
    go_quiet ((go_at_call 48; exact Calls.quiet_of_same (HP2.out _)))
    go_wp2_with fail
    go_ret
    exact ⟨rfl, ⟨k + m.size, hle, rfl, (HB.out.drewN _).place _⟩, ((Tn.refl _ _ _).drewN _).set _ _⟩

/-! ### what a byte is -/
theorem bl_int (c : UInt8) : bl c = (((c.toNat : Int) == 9) || ((c.toNat : Int) == 10) || ((c.toNat : Int) == 13) || ((c.toNat : Int) == 32)) := by
  have H : ∀ k : Fin 256, bl (UInt8.ofNat k.val) = (((k.val : Int) == 9) || ((k.val : Int) == 10) || ((k.val : Int) == 13) || ((k.val : Int) == 32)) := by decide +kernel
  have h := H ⟨c.toNat, c.toNat_lt⟩
  simpa using h
theorem beg_int (c : UInt8) : beg c = ((decide ((65 : Int) ≤ c.toNat) && decide ((c.toNat : Int) ≤ 90)) || (decide ((97 : Int) ≤ c.toNat) && decide ((c.toNat : Int) ≤ 122)) || ((c.toNat : Int) == 95)) := by
  have H : ∀ k : Fin 256, beg (UInt8.ofNat k.val) = ((decide ((65 : Int) ≤ k.val) && decide ((k.val : Int) ≤ 90)) || (decide ((97 : Int) ≤ k.val) && decide ((k.val : Int) ≤ 122)) || ((k.val : Int) == 95)) := by decide +kernel
  have h := H ⟨c.toNat, c.toNat_lt⟩
  simpa using h
theorem wi_int (c : UInt8) : wi c = (beg c || (decide ((48 : Int) ≤ c.toNat) && decide ((c.toNat : Int) ≤ 57)) || ((c.toNat : Int) == 45) || ((c.toNat : Int) == 46)) := by
  have H : ∀ k : Fin 256, wi (UInt8.ofNat k.val) = (beg (UInt8.ofNat k.val) || (decide ((48 : Int) ≤ k.val) && decide ((k.val : Int) ≤ 57)) || ((k.val : Int) == 45) || ((k.val : Int) == 46)) := by decide +kernel
  have h := H ⟨c.toNat, c.toNat_lt⟩
  simpa using h
theorem ne_int (c d : UInt8) : (c != d) = ((c.toNat : Int) != (d.toNat : Int)) := by
  by_cases h : c = d
  · subst h; simp
  · have : (c.toNat : Int) ≠ d.toNat := fun e => h (UInt8.toNat_inj.1 (by omega))
    rw [bne_iff_ne.2 h, bne_iff_ne.2 this]
set_option maxHeartbeats 400000 in
theorem blank_any (c : UInt8) (w : World) : Calls Tryz.prog 69 #[.int .u8 c.toNat] w fun e w' => e = .returned (.bool (bl c)) ∧ w' = w := by
  rw [bl_int c]
  obtain ⟨z, hz⟩ : ∃ z : Int, (c.toNat : Int) = z := ⟨_, rfl⟩
  rw [hz]
  clear hz
  go_enter Tryz.func69, Tryz.ntmps69
  go_wp2
  all_goals
    go_ret
    exact ⟨ret_bool (by first | rfl | (rw [Bool.eq_iff_iff]; simp; done) | (rw [Bool.eq_iff_iff]; simp; omega)), rfl⟩
set_option maxHeartbeats 400000 in
theorem begins_any (c : UInt8) (w : World) : Calls Tryz.prog 89 #[.int .u8 c.toNat] w fun e w' => e = .returned (.bool (beg c)) ∧ w' = w := by
  rw [beg_int c]
  obtain ⟨z, hz⟩ : ∃ z : Int, (c.toNat : Int) = z := ⟨_, rfl⟩
  rw [hz]
  clear hz
  go_enter Tryz.func89, Tryz.ntmps89
  go_wp2
  all_goals
    go_ret
    exact ⟨ret_bool (by first | rfl | (rw [Bool.eq_iff_iff]; simp; done) | (rw [Bool.eq_iff_iff]; simp; omega)), rfl⟩
set_option maxHeartbeats 400000 in
theorem within_any (c : UInt8) (w : World) : Calls Tryz.prog 90 #[.int .u8 c.toNat] w fun e w' => e = .returned (.bool (wi c)) ∧ w' = w := by
  have HB := Lib.hid (begins_any c w)
  rw [wi_int c]
  obtain ⟨q, hq⟩ : ∃ q, beg c = q := ⟨_, rfl⟩
  rw [hq] at HB ⊢
  obtain ⟨z, hz⟩ : ∃ z : Int, (c.toNat : Int) = z := ⟨_, rfl⟩
  rw [hz] at HB ⊢
  clear hz hq
  go_enter Tryz.func90, Tryz.ntmps90
  go_wp2_with (go_at_call 89; refine HB.out.mono ?_; rintro e w1 ⟨rfl, rfl⟩)
  all_goals
    go_ret
    exact ⟨ret_bool (by first | rfl | (rw [Bool.eq_iff_iff]; simp_all; done) | (rw [Bool.eq_iff_iff]; simp_all; omega)), rfl⟩
set_option maxHeartbeats 400000 in
theorem words1_any (c : UInt8) (w : World) : Calls Tryz.prog 71 #[.int .u8 c.toNat] w fun e w' => e = .returned (.bool (c != 60)) ∧ w' = w := by
  rw [ne_int c 60]
  obtain ⟨z, hz⟩ : ∃ z : Int, (c.toNat : Int) = z := ⟨_, rfl⟩
  rw [hz]
  clear hz
  go_enter Tryz.func71, Tryz.ntmps71
  go_wp2
  go_ret
  exact ⟨rfl, rfl⟩
/-- A question that may be asked of a byte. -/
def AsksB (T : Nat) (w : World) (f : Value) (p : UInt8 → Bool) : Prop := ∃ (F : FuncId) (cb : Array Value), f = .func (.func F) #[] cb ∧ (∀ args W, (callFunc F args).run Tryz.prog W = .ok (.enter F args) W) ∧
  ∀ (c : UInt8) (W : World), Tn T w.heap.size w W → Calls Tryz.prog F (#[.int .u8 c.toNat] ++ cb) W fun e w' => e = .returned (.bool (p c)) ∧ ∃ n, w' = W.drewN n
theorem asks_blank (T : Nat) (w : World) : AsksB T w (.func (.func 69) #[] #[]) bl :=
  ⟨_, _, rfl, Go.Proofs.enters_of Tryz.func69 (by kernel_rfl) rfl, fun c W _ => (blank_any c W).mono fun e w' h => ⟨h.1, 0, h.2⟩⟩
theorem asks_within (T : Nat) (w : World) : AsksB T w (.func (.func 90) #[] #[]) wi :=
  ⟨_, _, rfl, Go.Proofs.enters_of Tryz.func90 (by kernel_rfl) rfl, fun c W _ => (within_any c W).mono fun e w' h => ⟨h.1, 0, h.2⟩⟩
theorem asks_words (T : Nat) (w : World) : AsksB T w (.func (.func 71) #[] #[]) (fun c => c != 60) :=
  ⟨_, _, rfl, Go.Proofs.enters_of Tryz.func71 (by kernel_rfl) rfl, fun c W _ => (words1_any c W).mono fun e w' h => ⟨h.1, 0, h.2⟩⟩

/-! ### a run -/
theorem run_end {p : UInt8 → Bool} {l : List UInt8} {k j : Nat} (hkj : k ≤ j) (hj : j ≤ l.length) (h1 : ∀ i, k ≤ i → i < j → p (l.getD i 0) = true) (h2 : j < l.length → p (l.getD j 0) = false) :
    (l.drop k).takeWhile p = (l.drop k).take (j - k) ∧ (l.drop k).dropWhile p = l.drop j := by
  have e : l.drop k = (l.drop k).take (j - k) ++ l.drop j := by
    conv => lhs; rw [← List.take_append_drop (j - k) (l.drop k)]
    rw [List.drop_drop]
    congr 2
    omega
  have h := tw_app (p := p) (u := (l.drop k).take (j - k)) (v := l.drop j) (fun x hx => by
    obtain ⟨i, hi, rfl⟩ := List.mem_iff_getElem.1 hx
    rw [List.length_take, List.length_drop] at hi
    have := h1 (k + i) (by omega) (by omega)
    rw [List.getD_eq_getElem?_getD, List.getElem?_eq_getElem (by omega)] at this
    simpa using this) (by
    by_cases hlt : j < l.length
    · have := h2 hlt
      rw [List.drop_eq_getElem_cons hlt]
      refine .cons _ ?_
      rw [List.getD_eq_getElem?_getD, List.getElem?_eq_getElem hlt] at this
      exact this
    · exact .inl (List.drop_eq_nil_of_le (by omega)))
  rw [← e] at h
  exact h
theorem cut_bytes {s : ByteArray} {k j : Nat} {l : List UInt8} (h : l = (s.data.toList.drop k).take (j - k)) : s.extract k j = bts l := by
  have e := Lib.extract_data s k j
  rw [← h] at e
  refine ByteArray.ext ?_
  exact Array.toList_inj.1 e
def placeOf (T : Nat) (w : World) : Nat := match w.cell? ⟨T, 1, none⟩ with
  | some (.int _ z) => z.toNat
  | _ => 0
theorem place_of {T k : Nat} {w : World} {ty : TypeId} {s : ByteArray} (h : Bk w T ty #[.string s, .int .i64 k]) : placeOf T w = k := by
  unfold placeOf
  rw [h.cell]
  rfl
theorem place_set {T : Nat} {w : World} {ty : TypeId} {a b : Value} (h : Bk w T ty #[a, b]) (z : Int) : placeOf T (w.setCell ⟨T, 1, none⟩ (.int .i64 z)) = z.toNat := by
  unfold placeOf
  rw [(h.place _).cell]
  rfl
set_option maxHeartbeats 2000000 in
theorem run_any (T : Nat) (s : ByteArray) (f : Value) (p : UInt8 → Bool) (r : List UInt8) (w : World) (h : TX 58 w T s r) (hs : s.size ≤ 100000000) (hf : AsksB T w f p) :
    Calls Tryz.prog 68 #[.pointer (some ⟨T, 0, none⟩), f] w fun e w' => e = .returned (.string (bts (r.takeWhile p))) ∧ TX 58 w' T s (r.dropWhile p) ∧ Tn T w.heap.size w w' := by
  obtain ⟨k, hk, rfl, hb⟩ := h
  obtain ⟨F, cb, rfl, eg, hp⟩ := hf
  have c0 : w.cell? ⟨T, 0, none⟩ = some (.string s) := hb.cell 0
  have c1 : w.cell? ⟨T, 1, none⟩ = some (.int .i64 k) := hb.cell 1
  have HB := Lib.hid hb
  have HP := Lib.hid hp
  have HSZ := Lib.hid (Lib.size_eq s)
  have HE := Lib.hid (fun (j : Nat) (a : k ≤ j) (b : j ≤ s.data.toList.length) c d => run_end (p := p) (l := s.data.toList) (k := k) (j := j) a b c d)
  have HPL := Lib.hid (fun (j : Nat) (W : World) (h : Bk W T 58 #[.string s, .int .i64 j]) => place_of h)
  have hT := hb.lt
  clear hb hp
  go_enter Tryz.func68, Tryz.ntmps68
  go_wp2_with fail
  clear c0 c1
  go_loopw [] (fun wr => ∃ (j : Nat), k ≤ j ∧ j ≤ s.size ∧ Hid (∀ i, k ≤ i → i < j → p (s.data.toList.getD i 0) = true) ∧ Hid (Bk wr T 58 #[.string s, .int .i64 j]) ∧ Hid (Tn T w.heap.size w wr)) (fun wr => s.size - placeOf T wr)
  case atStart => exact ⟨k, Nat.le_refl _, hk, Lib.hid (fun i h1 h2 => by omega), HB.out, Tn.refl _ _ _⟩
  case round =>
    obtain ⟨j, hkj, hjs, hall, hbk, htn⟩ := hrel
    have hpl := Lib.hid (HPL.out j wr hbk.out)
    have d0 : wr.cell? ⟨T, 0, none⟩ = some (.string s) := hbk.out.cell 0
    have d1 : wr.cell? ⟨T, 1, none⟩ = some (.int .i64 j) := hbk.out.cell 1
    have g1 : wr.frozen? ⟨T, 1, none⟩ = false := hbk.out.free 1
    by_cases hlt : j < s.size
    · have gB : decide ((j : Int) < (s.size : Int)) = true := decide_eq_true (by omega)
      have hgd : Hid (s.data.toList.getD j 0 = s[j]'hlt) := by
        unfold Hid
        rw [List.getD_eq_getElem?_getD, Lib.data_getElem? s j hlt]
        rfl
      obtain ⟨c, hc⟩ : ∃ c : UInt8, s[j]'hlt = c := ⟨_, rfl⟩
      have HC := Lib.hid (hgd.out.trans hc)
      cases hpc : p c with
      | true =>
        have HQ : Hid (∀ W, Tn T w.heap.size w W → Calls Tryz.prog F (#[.int .u8 c.toNat] ++ cb) W fun e w' => e = .returned (.bool true) ∧ ∃ n, w' = W.drewN n) := fun W hW => (HP.out c W hW).mono (fun e w' h => ⟨by rw [h.1, hpc], h.2⟩)
        have hall2 : Hid (∀ i, k ≤ i → i < j + 1 → p (s.data.toList.getD i 0) = true) := fun i h1 h2 => by
          rcases Nat.lt_or_ge i j with h | h
          · exact hall.out i h1 h
          · obtain rfl : i = j := by omega
            rw [HC.out]; exact hpc
        clear hpc hgd
        go_wp2_with fail
        go_quiet (exact Calls.quiet_of (HQ.out _ (htn.out.drewN _)))
        go_wp2_with fail
        go_roundw
        case rel => exact ⟨j + 1, by omega, by omega, hall2, (hbk.out.drewN _).place _, (htn.out.drewN _).set _ _⟩
        case measure => rw [place_of hbk.out, place_set (hbk.out.drewN _)]; omega
      | false =>
        have HQ : Hid (∀ W, Tn T w.heap.size w W → Calls Tryz.prog F (#[.int .u8 c.toNat] ++ cb) W fun e w' => e = .returned (.bool false) ∧ ∃ n, w' = W.drewN n) := fun W hW => (HP.out c W hW).mono (fun e w' h => ⟨by rw [h.1, hpc], h.2⟩)
        have hE := Lib.hid (HE.out j hkj (by have := HSZ.out; omega) hall.out (fun _ => by rw [HC.out]; exact hpc))
        have hcut := Lib.hid (cut_bytes (s := s) hE.out.1)
        clear hpc hgd
        go_wp2_with fail
        go_quiet (exact Calls.quiet_of (HQ.out _ (htn.out.drewN _)))
        go_wp2_with fail
        go_region
        all_goals
          go_wp2_with fail
          go_ret
          exact ⟨by rw [hcut.out]; rfl, ⟨j, hjs, hE.out.2, hbk.out.drewN _⟩, (htn.out.drewN _).drew⟩
    · have hje : j = s.size := by omega
      have gB : decide ((j : Int) < (s.size : Int)) = false := decide_eq_false (by omega)
      have hE := Lib.hid (HE.out j hkj (by have := HSZ.out; omega) hall.out (fun h => by have := HSZ.out; omega))
      have hcut := Lib.hid (cut_bytes (s := s) hE.out.1)
      clear hje
      go_wp2_with fail
      go_quiet (fail)
      go_wp2_with fail
      go_region
      all_goals
        go_wp2_with fail
        go_ret
        exact ⟨by rw [hcut.out]; rfl, ⟨j, hjs, hE.out.2, hbk.out.drewN _⟩, (htn.out.drewN _).drew⟩
theorem first_drop {s : ByteArray} {k : Nat} (h : k < s.size) : s.data.toList.drop k = (s[k]'h) :: s.data.toList.drop (k + 1) := by
  have h1 : k < s.data.toList.length := by rw [← Lib.size_eq]; exact h
  rw [List.drop_eq_getElem_cons h1]
  congr 1
theorem name_yes {c : UInt8} {t : List UInt8} (h : beg c = true) : nameL (c :: t) = ((c :: t).takeWhile wi, (c :: t).dropWhile wi) := by
  unfold nameL
  simp only
  rw [if_pos h]
theorem name_no {c : UInt8} {t : List UInt8} (h : beg c = false) : nameL (c :: t) = ([], c :: t) := by
  unfold nameL
  simp only
  rw [if_neg (by rw [h]; decide)]
set_option maxHeartbeats 2000000 in
theorem name_any (T : Nat) (s : ByteArray) (r : List UInt8) (w : World) (h : TX 58 w T s r) (hs : s.size ≤ 100000000) :
    Calls Tryz.prog 67 #[.pointer (some ⟨T, 0, none⟩)] w fun e w' => e = .returned (.string (bts (nameL r).1)) ∧ TX 58 w' T s (nameL r).2 ∧ Tn T w.heap.size w w' := by
  have h' := h
  obtain ⟨k, hk, hr, hb⟩ := h
  have c0 : w.cell? ⟨T, 0, none⟩ = some (.string s) := hb.cell 0
  have c1 : w.cell? ⟨T, 1, none⟩ = some (.int .i64 k) := hb.cell 1
  have HB := Lib.hid hb
  have HT := Lib.hid h'
  have HRun := Lib.hid (fun (W : World) (a : TX 58 W T s r) => run_any T s _ wi r W a hs (asks_within T W))
  by_cases hlt : k < s.size
  · have gB : ((k : Int) == (s.size : Int)) = false := by simp; omega
    have hf := first_drop hlt
    rw [← hr] at hf
    obtain ⟨c, hc⟩ : ∃ c : UInt8, s[k]'hlt = c := ⟨_, rfl⟩
    rw [hc] at hf
    have HBg := Lib.hid (begins_any c)
    cases hbc : beg c with
    | true =>
      have hn : Hid (nameL r = (r.takeWhile wi, r.dropWhile wi)) := by unfold Hid; rw [hf]; exact name_yes hbc
      rw [hbc] at HBg
      clear hb h' hr hf hbc
      go_enter Tryz.func67, Tryz.ntmps67
      go_wp2_with fail
      go_quiet ((go_at_call 89; exact Calls.quiet_of_same (HBg.out _)))
      go_wp2_with fail
      refine (HRun.out _ (by obtain ⟨j, a, b, d⟩ := HT.out; exact ⟨j, a, b, d.drewN _⟩)).mono ?_
      rintro e w1 ⟨rfl, t1, n1⟩
      have T1 := Lib.hid t1
      have N1 := Lib.hid n1
      clear t1 n1
      go_wp2_with fail
      go_ret
      exact ⟨by rw [hn.out]; rfl, by rw [hn.out]; exact T1.out, ((Tn.refl T _ w).drewN _).then N1.out (Nat.le_refl _)⟩
    | false =>
      have hn : Hid (nameL r = ([], r)) := by unfold Hid; rw [hf]; exact name_no hbc
      rw [hbc] at HBg
      clear hb h' hr hf hbc
      go_enter Tryz.func67, Tryz.ntmps67
      go_wp2_with fail
      go_quiet ((go_at_call 89; exact Calls.quiet_of_same (HBg.out _)))
      go_wp2_with fail
      go_ret
      exact ⟨by rw [hn.out]; rfl, by rw [hn.out]; exact (by obtain ⟨j, a, b, d⟩ := HT.out; exact ⟨j, a, b, d.drewN _⟩), (Tn.refl T _ w).drewN _⟩
  · have gB : ((k : Int) == (s.size : Int)) = true := by simp; omega
    have hn : Hid (nameL r = ([], r)) := by
      have e : r = [] := by rw [hr]; exact List.drop_eq_nil_of_le (by rw [← Lib.size_eq]; omega)
      unfold Hid
      rw [e]
      rfl
    clear hb h' hr hlt
    go_enter Tryz.func67, Tryz.ntmps67
    go_wp2_with fail
    go_quiet (fail)
    go_wp2_with fail
    go_ret
    exact ⟨by rw [hn.out]; rfl, by rw [hn.out]; exact (by obtain ⟨j, a, b, d⟩ := HT.out; exact ⟨j, a, b, d.drewN _⟩), (Tn.refl T _ w).drewN _⟩
end Go.Proofs.YtbkfmbkamocllaaGreatDoor
