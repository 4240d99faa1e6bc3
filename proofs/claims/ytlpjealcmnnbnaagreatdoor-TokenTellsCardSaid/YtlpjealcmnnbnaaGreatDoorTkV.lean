/-
  package token: a value in its quotes, an attribute.
-/
import Derived.Test.YtlpjealcmnnbnaaGreatDoorTkR
import Derived.Test.YtlpjealcmnnbnaaGreatDoorBack
namespace Go.Proofs.YtlpjealcmnnbnaaGreatDoor
open Go.RowKit Tk

/-- What the library's tables and errors hold, below the text's block. -/
def Env (T : Nat) (w : World) : Prop := Base T (fun w => Tabs w ∧ ErrS w) w
theorem Env.tabs {T : Nat} {w : World} (h : Env T w) : Tabs w ∧ ErrS w := by
  obtain ⟨w0, ⟨h1, h2⟩, _, h4⟩ := h
  exact ⟨h1.below h4, h2.below h4⟩
theorem Env.tn {T : Nat} {w w' : World} (h : Env T w) (k : Tn T w.heap.size w w') (hT : T < w.heap.size) : Env T w' := Base.tn h k (Nat.le_of_lt hT)
theorem Env.low {T : Nat} {w : World} (h : Env T w) (n : Nat) : Env T (w.drewN n) := by
  obtain ⟨w0, h1, h2, h3⟩ := h
  exact ⟨w0, h1, h2, ⟨h3.os, h3.tape, h3.output, h3.size, h3.block⟩⟩
theorem TX.drewN {ty : TypeId} {w : World} {T : Nat} {s : ByteArray} {r : List UInt8} (h : TX ty w T s r) (n : Nat) : TX ty (w.drewN n) T s r := by
  obtain ⟨k, h1, h2, h⟩ := h
  exact ⟨k, h1, h2, h⟩
theorem TX.alloc {ty : TypeId} {w : World} {T : Nat} {s : ByteArray} {r : List UInt8} (h : TX ty w T s r) (o : Obj) : TX ty (w.alloc o) T s r := by
  obtain ⟨k, h1, h2, h⟩ := h
  exact ⟨k, h1, h2, h.alloc o⟩
theorem TX.far {ty : TypeId} {w : World} {T : Nat} {s : ByteArray} {r : List UInt8} (h : TX ty w T s r) {p : Addr} (hp : T ≠ p.block) (u : Value) : TX ty (w.setCell p u) T s r := by
  obtain ⟨k, h1, h2, h⟩ := h
  exact ⟨k, h1, h2, h.far hp u⟩
theorem backV_cases (l : List UInt8) : (∃ x, backO l = some x ∧ backV l = .tuple #[.string (bts x), .int .i64 0]) ∨ ∃ n : Int, n ≠ 0 ∧ backO l = none ∧ backV l = .tuple #[.string ⟨#[]⟩, .int .i64 n] := by
  cases hv : Tx.valid l with
  | false => exact .inr ⟨3, by decide, by unfold backO; rw [hv]; rfl, backV_utf hv⟩
  | true =>
    have e : backO l = Tx.back l := by unfold backO; rw [hv]; rfl
    cases hb : Tx.back l with
    | none => exact .inr ⟨5, by decide, by rw [e, hb], backV_none hv hb⟩
    | some x => exact .inl ⟨x, by rw [e, hb], backV_some hv hb⟩
theorem one_prefix (q : UInt8) (l : List UInt8) : ([q].isPrefixOf l = true ∧ ∃ t, l = q :: t ∧ over [q] l = t) ∨ ([q].isPrefixOf l = false ∧ over [q] l = l ∧ ∀ t, l ≠ q :: t) := by
  cases l with
  | nil => exact .inr ⟨rfl, rfl, by simp⟩
  | cons c t =>
    by_cases h : c = q
    · subst h
      exact .inl ⟨by simp, t, rfl, by unfold over; simp⟩
    · have e : [q].isPrefixOf (c :: t) = false := by
        show (q == c && _) = false
        rw [beq_eq_false_iff_ne.2 (fun e => h e.symm)]
        rfl
      exact .inr ⟨e, by unfold over; rw [e]; rfl, fun t' e2 => by injection e2 with e2 _; exact h e2⟩
def qOf (n : Nat) : UInt8 := if n = 0 then 34 else 39
theorem qOf_or (n : Nat) : qOf n = 34 ∨ qOf n = 39 := by unfold qOf; split <;> simp
theorem val_other {l : List UInt8} (h : ∀ n, n < 2 → ∀ t, l ≠ qOf n :: t) : valL l = none := by
  cases l with
  | nil => rfl
  | cons c t =>
    rw [val_cons, if_neg]
    rintro (rfl | rfl)
    · exact h 0 (by omega) t rfl
    · exact h 1 (by omega) t rfl
theorem val_open {q : UInt8} {t : List UInt8} (hq : q = 34 ∨ q = 39) (h : ∀ r, t.dropWhile (fun c => c != q) ≠ q :: r) : valL (q :: t) = none := by
  rw [val_cons, if_pos hq]
  cases e : t.dropWhile (fun c => c != q) with
  | nil => rfl
  | cons c r =>
    have hs := stops_drop (fun c => c != q) t
    rw [e] at hs
    rcases hs with e2 | ⟨c', t', e2, hc⟩
    · cases e2
    · injection e2 with e2 _
      have : c = q := by rw [e2]; simpa using hc
      exact absurd e (by rw [this]; exact h r)
theorem val_shut {q : UInt8} {t r : List UInt8} (hq : q = 34 ∨ q = 39) (h : t.dropWhile (fun c => c != q) = q :: r) : valL (q :: t) = (backO (t.takeWhile (fun c => c != q))).map fun x => (x, r) := by
  rw [val_cons, if_pos hq, h]
/-- what a value answers: it and what is behind it, or that there is none -/
def ValOut (T : Nat) (s : ByteArray) (o : Option (List UInt8 × List UInt8)) (e : Ending) (w' : World) : Prop := match o with
  | some p => e = .returned (.tuple #[.string (bts p.1), .bool true]) ∧ TX 35 w' T s p.2
  | none => ∃ u r, e = .returned (.tuple #[.string u, .bool false]) ∧ TX 35 w' T s r
theorem ValOut.yes {T : Nat} {s : ByteArray} {o : Option (List UInt8 × List UInt8)} {e : Ending} {w' : World} {x r : List UInt8} (h : o = some (x, r)) (a : e = .returned (.tuple #[.string (bts x), .bool true]) ∧ TX 35 w' T s r) : ValOut T s o e w' := by subst h; exact a
theorem ValOut.no {T : Nat} {s : ByteArray} {o : Option (List UInt8 × List UInt8)} {e : Ending} {w' : World} (h : o = none) (u : ByteArray) (r : List UInt8) (a : e = .returned (.tuple #[.string u, .bool false]) ∧ TX 35 w' T s r) : ValOut T s o e w' := by subst h; exact ⟨u, r, a⟩
set_option maxHeartbeats 400000 in
theorem value1_any (q c : UInt8) (b : Nat) (w : World) (h : Bk w b 9 #[.string ⟨#[q]⟩]) : Calls Tryz.prog 79 (#[.int .u8 c.toNat] ++ #[.pointer (some ⟨b, 0, none⟩)]) w fun e w' => e = .returned (.bool (c != q)) ∧ w' = w := by
  rw [ne_int c q]
  have c0 : w.cell? ⟨b, 0, none⟩ = some (.string ⟨#[q]⟩) := h.cell 0
  have hx : (((⟨#[q]⟩ : ByteArray)[0]'(by show 0 < 1; omega)).toNat : Int) = (q.toNat : Int) := rfl
  have hsz : (⟨#[q]⟩ : ByteArray).size = 1 := rfl
  obtain ⟨z, hz⟩ : ∃ z : Int, (c.toNat : Int) = z := ⟨_, rfl⟩
  obtain ⟨y, hy⟩ : ∃ y : Int, (q.toNat : Int) = y := ⟨_, rfl⟩
  rw [hy] at hx ⊢
  rw [hz]
  clear hz hy h
  go_enter Tryz.func79, Tryz.ntmps79
  go_wp2
  go_ret
  exact ⟨rfl, rfl⟩
theorem asks_value (T b : Nat) (q : UInt8) (w : World) (h : Bk w b 9 #[.string ⟨#[q]⟩]) (hb : b ≠ T) : AsksB T w (.func (.func 79) #[] #[.pointer (some ⟨b, 0, none⟩)]) (fun c => c != q) :=
  ⟨_, _, rfl, Go.Proofs.enters_of Tryz.func79 (by kernel_rfl) rfl, fun c W hW => (value1_any q c b W (hW.bk h h.lt hb)).mono fun e w' h => ⟨h.1, 0, h.2⟩⟩
set_option maxHeartbeats 4000000 in
set_option maxRecDepth 100000 in
theorem value_any (T : Nat) (s : ByteArray) (r : List UInt8) (w : World) (h : TX 35 w T s r) (hs : s.size ≤ 100000000) (hE : Env T w) :
    Calls Tryz.prog 67 #[.pointer (some ⟨T, 0, none⟩)] w fun e w' => ValOut T s (valL r) e w' ∧ Tn T w.heap.size w w' := by
  have HTX := Lib.hid h
  have HENV := Lib.hid hE
  have hT := h.lt
  have HOV := Lib.hid (fun (m : ByteArray) (l : List UInt8) (W : World) (a : TX 35 W T s l) (b : m.size ≤ 1000) => over_any T s m l W a hs b)
  have HRU := Lib.hid (fun (f : Value) (p : UInt8 → Bool) (l : List UInt8) (W : World) (a : TX 35 W T s l) (b : AsksB T W f p) => run_any T s f p l W a hs b)
  clear h hE
  go_enter Tryz.func67, Tryz.ntmps67
  go_wp2_with fail
  obtain ⟨Q, hQ⟩ : ∃ Q, w.heap.size = Q := ⟨_, rfl⟩
  rw [hQ] at hT ⊢
  have HQ := Lib.hid hQ
  go_loopw [10] (fun i wr => ∃ n : Nat, n ≤ 2 ∧ i = .int .i64 n ∧ Hid (∀ m, m < n → ∀ t, r ≠ qOf m :: t) ∧ Hid (TX 35 wr T s r) ∧ Hid (Bk wr Q 9 #[.string ⟨#[34]⟩, .string ⟨#[39]⟩]) ∧ Hid (Tn T Q w wr)) (fun i _ => 2 - (intOf i).toNat)
  case atStart =>
    have hQe := HQ.out
    subst hQe
    exact ⟨0, by omega, rfl, Lib.hid (fun m hm => by omega), HTX.out.alloc _, Bk.new w _ _, (Tn.refl T _ w).alloc (Nat.le_refl _) _⟩
  case round =>
    obtain ⟨n, hn, rfl, hno, htx, hbk, htn⟩ := hrel
    have hsw := htn.out.size
    have hQs := hbk.out.lt
    have HER : Hid (Env T wr) := Base.tn HENV.out htn.out (by have := HQ.out; omega)
    by_cases hlt : n < 2
    · have d0 : wr.cell? ⟨Q, n, none⟩ = some (.string ⟨#[qOf n]⟩) := by
        rw [hbk.out.cell]
        obtain rfl | rfl : n = 0 ∨ n = 1 := by omega
        · rfl
        · rfl
      have hq := Lib.hid (qOf_or n)
      have HNO := hno
      obtain ⟨q, hqe⟩ : ∃ q, qOf n = q := ⟨_, rfl⟩
      have HQE := Lib.hid hqe
      rw [hqe] at d0 hq
      clear hqe
      have hsz : (⟨#[q]⟩ : ByteArray).size = 1 := rfl
      have gB : decide ((n : Int) < 2) = true := decide_eq_true (by omega)
      obtain ⟨b, hb⟩ : ∃ b, wr.heap.size = b := ⟨_, rfl⟩
      have hbT : b ≠ T := by omega
      have HT1 : Hid (TX 35 (wr.alloc (.cells #[.string ⟨#[q]⟩] 9)) T s r) := htx.out.alloc _
      have HB1 : Hid (Bk (wr.alloc (.cells #[.string ⟨#[q]⟩] 9)) b 9 #[.string ⟨#[q]⟩]) := by unfold Hid; rw [← hb]; exact Bk.new wr _ _
      have HN1 : Hid (Tn T Q w (wr.alloc (.cells #[.string ⟨#[q]⟩] 9))) := htn.out.alloc (by omega) _
      have HK1 : Hid (Bk (wr.alloc (.cells #[.string ⟨#[q]⟩] 9)) Q 9 #[.string ⟨#[34]⟩, .string ⟨#[39]⟩]) := hbk.out.alloc _
      obtain ⟨W1, hW1⟩ : ∃ W1, wr.alloc (.cells #[.string ⟨#[q]⟩] 9) = W1 := ⟨_, rfl⟩
      have hs1 : W1.heap.size = b + 1 := by rw [← hW1, World.size_alloc, hb]
      rw [hW1] at HT1 HB1 HN1 HK1
      have e1 : W1.cell? ⟨b, 0, none⟩ = some (.string ⟨#[q]⟩) := HB1.out.cell 0
      have HS1 := Lib.hid hs1
      clear hs1
      rcases one_prefix q r with ⟨hp, t, hrt, ho⟩ | ⟨hp, ho, hne⟩
      · have HO1 := Lib.hid (HOV.out ⟨#[q]⟩ r W1 HT1.out (by rw [hsz]; omega))
        rw [show (⟨#[q]⟩ : ByteArray).data.toList = [q] from rfl, hp, ho] at HO1
        have htl : t.length ≤ s.size := by have := htx.out.len; rw [hrt] at this; simp at this; omega
        have HRT := Lib.hid hrt
        obtain ⟨X, hX⟩ : ∃ X, t.takeWhile (fun c => c != q) = X := ⟨_, rfl⟩
        obtain ⟨Y, hY⟩ : ∃ Y, t.dropWhile (fun c => c != q) = Y := ⟨_, rfl⟩
        have hXl : X.length ≤ s.size := by have := while_len (fun c => c != q) t; rw [hX] at this; omega
        have hVS := Lib.hid (fun (r3 : List UInt8) (e : Y = q :: r3) => val_shut (q := q) (t := t) (r := r3) hq.out (by rw [hY]; exact e))
        have hVO := Lib.hid (fun (e : ∀ r3, Y ≠ q :: r3) => val_open (q := q) (t := t) hq.out (by rw [hY]; exact e))
        rw [hX] at hVS
        have HRX := Lib.hid (fun (W : World) (a : TX 35 W T s t) (c : Bk W b 9 #[.string ⟨#[q]⟩]) => HRU.out _ _ t W a (asks_value T b q W c hbT))
        rw [hX, hY] at HRX
        obtain ⟨BX, hBX⟩ : ∃ BX : ByteArray, bts X = BX := ⟨_, rfl⟩
        have hBXl : BX.data.toList = X := by rw [← hBX]
        have HBA := Lib.hid (fun (W : World) (a : Env T W) => back_any BX W a.tabs.1 a.tabs.2 (by rw [Lib.size_eq, hBXl]; omega))
        rw [hBXl] at HBA
        rw [hBX] at HRX
        clear hp ho hrt hX hY hBX hBXl
        go_wp2_with fail
        clear hW1
        refine HO1.out.mono ?_
        rintro e w1 ⟨rfl, t1, n1⟩
        have T1 := Lib.hid t1
        have B1 := Lib.hid (n1.bk HB1.out (by have := HS1.out; omega) hbT)
        have N1 : Hid (Tn T Q w w1) := HN1.out.then n1 (by have := HS1.out; omega)
        have E1 : Hid (Env T w1) := Base.tn HENV.out N1.out (by omega)
        have z1 : Hid (W1.heap.size ≤ w1.heap.size) := n1.size
        clear t1 n1
        go_wp2_with fail
        refine (HRX.out w1 T1.out B1.out).mono ?_
        rintro e w2 ⟨rfl, t2, n2⟩
        have T2 := Lib.hid t2
        have B2 := Lib.hid (n2.bk B1.out B1.out.lt hbT)
        have N2 : Hid (Tn T Q w w2) := N1.out.then n2 (by have := HS1.out; have := z1.out; omega)
        have E2 : Hid (Env T w2) := Base.tn HENV.out N2.out (by omega)
        have z2 : Hid (w1.heap.size ≤ w2.heap.size) := n2.size
        clear t2 n2
        go_wp2_with fail
        refine (HBA.out w2 E2.out).mono ?_
        rintro e w3 ⟨rfl, b3⟩
        have T3 := Lib.hid (T2.out.below b3 T2.out.lt)
        have N3 : Hid (Tn T Q w w3) := N2.out.then (.of b3) (by have := HS1.out; have := z1.out; have := z2.out; omega)
        have c3 : w3.cell? ⟨b, 0, none⟩ = some (.string ⟨#[q]⟩) := (B2.out.below b3 B2.out.lt).cell 0
        have z3 : Hid (w2.heap.size ≤ w3.heap.size) := b3.size
        clear b3
        rcases one_prefix q Y with ⟨hp, r3, hr3, ho⟩ | ⟨hp, ho, hne⟩
        · have HO3 := Lib.hid (HOV.out ⟨#[q]⟩ Y w3 T3.out (by rw [hsz]; omega))
          rw [show (⟨#[q]⟩ : ByteArray).data.toList = [q] from rfl, hp, ho] at HO3
          have hv := hVS.out r3 hr3
          rcases backV_cases X with ⟨x, hx1, hx2⟩ | ⟨m, hm, hx1, hx2⟩
          · rw [hx1] at hv
            have HV : Hid (valL r = some (x, r3)) := by unfold Hid; rw [HRT.out, hv]; rfl
            have HX2 := Lib.hid hx2
            clear hp ho hr3 hv hx1 hx2
            rw [HX2.out]
            go_wp2_with fail
            refine HO3.out.mono ?_
            rintro e w4 ⟨rfl, t4, n4⟩
            have T4 := Lib.hid t4
            have N4 : Hid (Tn T Q w w4) := N3.out.then n4 (by have := HS1.out; have := z1.out; have := z2.out; have := z3.out; omega)
            clear t4 n4
            go_wp2_with fail
            go_ret2
            exact ⟨ValOut.yes HV.out ⟨rfl, T4.out⟩, by rw [HQ.out]; exact N4.out⟩
          · rw [hx1] at hv
            have HV : Hid (valL r = none) := by unfold Hid; rw [HRT.out, hv]; rfl
            have HX2 := Lib.hid hx2
            have hm2 : (m == 0) = false := by simpa using hm
            clear hp ho hr3 hv hx1 hx2 hm
            rw [HX2.out]
            go_wp2_with fail
            refine HO3.out.mono ?_
            rintro e w4 ⟨rfl, t4, n4⟩
            have T4 := Lib.hid t4
            have N4 : Hid (Tn T Q w w4) := N3.out.then n4 (by have := HS1.out; have := z1.out; have := z2.out; have := z3.out; omega)
            clear t4 n4
            go_wp2_with fail
            go_ret2
            exact ⟨ValOut.no HV.out _ r3 ⟨rfl, T4.out⟩, by rw [HQ.out]; exact N4.out⟩
        · have HO3 := Lib.hid (HOV.out ⟨#[q]⟩ Y w3 T3.out (by rw [hsz]; omega))
          rw [show (⟨#[q]⟩ : ByteArray).data.toList = [q] from rfl, hp, ho] at HO3
          have HV : Hid (valL r = none) := by unfold Hid; rw [HRT.out]; exact hVO.out hne
          clear hp ho hne
          obtain ⟨u, m, hx2⟩ : ∃ (u : ByteArray) (m : Int), backV X = .tuple #[.string u, .int .i64 m] := by
            rcases backV_cases X with ⟨x, _, hx2⟩ | ⟨m, _, _, hx2⟩
            · exact ⟨_, _, hx2⟩
            · exact ⟨_, _, hx2⟩
          have HX2 := Lib.hid hx2
          clear hx2
          rw [HX2.out]
          go_wp2_with fail
          refine HO3.out.mono ?_
          rintro e w4 ⟨rfl, t4, n4⟩
          have T4 := Lib.hid t4
          have N4 : Hid (Tn T Q w w4) := N3.out.then n4 (by have := HS1.out; have := z1.out; have := z2.out; have := z3.out; omega)
          clear t4 n4
          go_wp2_with fail
          go_ret2
          exact ⟨ValOut.no HV.out _ Y ⟨rfl, T4.out⟩, by rw [HQ.out]; exact N4.out⟩
      · have HO1 := Lib.hid (HOV.out ⟨#[q]⟩ r W1 HT1.out (by rw [hsz]; omega))
        rw [show (⟨#[q]⟩ : ByteArray).data.toList = [q] from rfl, hp, ho] at HO1
        have hno2 : Hid (∀ m, m < n + 1 → ∀ t, r ≠ qOf m :: t) := fun m hm t => by
          rcases Nat.lt_or_ge m n with h | h
          · exact HNO.out m h t
          · obtain rfl : m = n := by omega
            rw [HQE.out]
            exact hne t
        clear hp ho hne
        go_wp2_with fail
        clear hW1
        refine HO1.out.mono ?_
        rintro e w1 ⟨rfl, t1, n1⟩
        have T1 := Lib.hid t1
        have K1 := Lib.hid (n1.bk HK1.out HK1.out.lt (by omega))
        have N1 : Hid (Tn T Q w w1) := HN1.out.then n1 (by have := HS1.out; omega)
        clear t1 n1
        go_wp2_with fail
        go_roundw
        case rel => exact ⟨n + 1, by omega, by go_num, hno2, T1.out, K1.out, N1.out⟩
        case measure => simp [intOf]; omega
    · have gB : decide ((n : Int) < 2) = false := decide_eq_false (by omega)
      have HV : Hid (valL r = none) := val_other (fun m hm t => hno.out m (by omega) t)
      go_wp2_with fail
      go_ret2
      exact ⟨ValOut.no HV.out _ r ⟨rfl, htx.out⟩, by rw [HQ.out]; exact htn.out⟩
end Go.Proofs.YtlpjealcmnnbnaaGreatDoor
