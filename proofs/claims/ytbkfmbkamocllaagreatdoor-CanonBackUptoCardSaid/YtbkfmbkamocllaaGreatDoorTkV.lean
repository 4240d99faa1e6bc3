/- Texts laid together: TkV TkA TkB TkC -/
import Derived.Test.YtbkfmbkamocllaaGreatDoorTkR
import Derived.Test.YtbkfmbkamocllaaGreatDoorBack
/-
  package token: a value in its quotes, an attribute.
-/
namespace Go.Proofs.YtbkfmbkamocllaaGreatDoor
open Go.RowKit Tk

/-- What the library's tables and errors hold, below the text's block. -/
def Env (T : Nat) (w : World) : Prop := Base T (fun w => Tabs w ∧ ErrS w) w
theorem Env.tabs {T : Nat} {w : World} (h : Env T w) : Tabs w ∧ ErrS w := by
  obtain ⟨w0, ⟨h1, h2⟩, _, h4⟩ := h
  exact ⟨h1.below h4, h2.below h4⟩
theorem Env.tn {T : Nat} {w w' : World} (h : Env T w) (k : Tn T w.heap.size w w') (hT : T < w.heap.size) : Env T w' := Base.tn h k (Nat.le_of_lt hT)
theorem Env.low {T : Nat} {w : World} (h : Env T w) (n : Nat) : Env T (w.drewN n) := by
  obtain ⟨w0, h1, h2, h3⟩ := h
  exact ⟨w0, h1, h2, ⟨h3.os, h3.tape, h3.output, h3.size, h3.block⟩⟩
theorem TX.drewN {ty : TypeId} {w : World} {T : Nat} {s : ByteArray} {r : List UInt8} (h : TX ty w T s r) (n : Nat) : TX ty (w.drewN n) T s r := by
  obtain ⟨k, h1, h2, h⟩ := h
  exact ⟨k, h1, h2, h⟩
theorem TX.alloc {ty : TypeId} {w : World} {T : Nat} {s : ByteArray} {r : List UInt8} (h : TX ty w T s r) (o : Obj) : TX ty (w.alloc o) T s r := by
  obtain ⟨k, h1, h2, h⟩ := h
  exact ⟨k, h1, h2, h.alloc o⟩
theorem TX.far {ty : TypeId} {w : World} {T : Nat} {s : ByteArray} {r : List UInt8} (h : TX ty w T s r) {p : Addr} (hp : T ≠ p.block) (u : Value) : TX ty (w.setCell p u) T s r := by
  obtain ⟨k, h1, h2, h⟩ := h
  exact ⟨k, h1, h2, h.far hp u⟩
theorem backV_cases (l : List UInt8) : (∃ x, backO l = some x ∧ backV l = .tuple #[.string (bts x), .int .i64 0]) ∨ ∃ n : Int, n ≠ 0 ∧ backO l = none ∧ backV l = .tuple #[.string ⟨#[]⟩, .int .i64 n] := by
  cases hv : Tx.valid l with
  | false => exact .inr ⟨3, by decide, by unfold backO; rw [hv]; rfl, backV_utf hv⟩
  | true =>
    have e : backO l = Tx.back l := by unfold backO; rw [hv]; rfl
    cases hb : Tx.back l with
    | none => exact .inr ⟨5, by decide, by rw [e, hb], backV_none hv hb⟩
    | some x => exact .inl ⟨x, by rw [e, hb], backV_some hv hb⟩
theorem one_prefix (q : UInt8) (l : List UInt8) : ([q].isPrefixOf l = true ∧ ∃ t, l = q :: t ∧ over [q] l = t) ∨ ([q].isPrefixOf l = false ∧ over [q] l = l ∧ ∀ t, l ≠ q :: t) := by
  cases l with
  | nil => exact .inr ⟨rfl, rfl, by simp⟩
  | cons c t =>
    by_cases h : c = q
    · subst h
      exact .inl ⟨by simp, t, rfl, by unfold over; simp⟩
    · have e : [q].isPrefixOf (c :: t) = false := by
        show (q == c && _) = false
        rw [beq_eq_false_iff_ne.2 (fun e => h e.symm)]
        rfl
      exact .inr ⟨e, by unfold over; rw [e]; rfl, fun t' e2 => by injection e2 with e2 _; exact h e2⟩
def qOf (n : Nat) : UInt8 := if n = 0 then 34 else 39
theorem qOf_or (n : Nat) : qOf n = 34 ∨ qOf n = 39 := by unfold qOf; split <;> simp
theorem val_other {l : List UInt8} (h : ∀ n, n < 2 → ∀ t, l ≠ qOf n :: t) : valL l = none := by
  cases l with
  | nil => rfl
  | cons c t =>
    rw [val_cons, if_neg]
    rintro (rfl | rfl)
    · exact h 0 (by omega) t rfl
    · exact h 1 (by omega) t rfl
theorem val_open {q : UInt8} {t : List UInt8} (hq : q = 34 ∨ q = 39) (h : ∀ r, t.dropWhile (fun c => c != q) ≠ q :: r) : valL (q :: t) = none := by
  rw [val_cons, if_pos hq]
  cases e : t.dropWhile (fun c => c != q) with
  | nil => rfl
  | cons c r =>
    have hs := stops_drop (fun c => c != q) t
    rw [e] at hs
    rcases hs with e2 | ⟨c', t', e2, hc⟩
    · cases e2
    · injection e2 with e2 _
      have : c = q := by rw [e2]; simpa using hc
      exact absurd e (by rw [this]; exact h r)
theorem val_shut {q : UInt8} {t r : List UInt8} (hq : q = 34 ∨ q = 39) (h : t.dropWhile (fun c => c != q) = q :: r) : valL (q :: t) = (backO (t.takeWhile (fun c => c != q))).map fun x => (x, r) := by
  rw [val_cons, if_pos hq, h]
/-- what a value answers: it and what is behind it, or that there is none -/
def ValOut (T : Nat) (s : ByteArray) (o : Option (List UInt8 × List UInt8)) (e : Ending) (w' : World) : Prop := match o with
  | some p => e = .returned (.tuple #[.string (bts p.1), .bool true]) ∧ TX 58 w' T s p.2
  | none => ∃ u r, e = .returned (.tuple #[.string u, .bool false]) ∧ TX 58 w' T s r
theorem ValOut.yes {T : Nat} {s : ByteArray} {o : Option (List UInt8 × List UInt8)} {e : Ending} {w' : World} {x r : List UInt8} (h : o = some (x, r)) (a : e = .returned (.tuple #[.string (bts x), .bool true]) ∧ TX 58 w' T s r) : ValOut T s o e w' := by subst h; exact a
theorem ValOut.no {T : Nat} {s : ByteArray} {o : Option (List UInt8 × List UInt8)} {e : Ending} {w' : World} (h : o = none) (u : ByteArray) (r : List UInt8) (a : e = .returned (.tuple #[.string u, .bool false]) ∧ TX 58 w' T s r) : ValOut T s o e w' := by subst h; exact ⟨u, r, a⟩
set_option maxHeartbeats 400000 in
theorem value1_any (q c : UInt8) (b : Nat) (w : World) (h : Bk w b 9 #[.string ⟨#[q]⟩]) : Calls Tryz.prog 121 (#[.int .u8 c.toNat] ++ #[.pointer (some ⟨b, 0, none⟩)]) w fun e w' => e = .returned (.bool (c != q)) ∧ w' = w := by
  rw [ne_int c q]
  have c0 : w.cell? ⟨b, 0, none⟩ = some (.string ⟨#[q]⟩) := h.cell 0
  have hx : (((⟨#[q]⟩ : ByteArray)[0]'(by show 0 < 1; omega)).toNat : Int) = (q.toNat : Int) := rfl
  have hsz : (⟨#[q]⟩ : ByteArray).size = 1 := rfl
  obtain ⟨z, hz⟩ : ∃ z : Int, (c.toNat : Int) = z := ⟨_, rfl⟩
  obtain ⟨y, hy⟩ : ∃ y : Int, (q.toNat : Int) = y := ⟨_, rfl⟩
  rw [hy] at hx ⊢
  rw [hz]
  clear hz hy h
  go_enter Tryz.func121, Tryz.ntmps121
  go_wp2
  go_ret
  exact ⟨rfl, rfl⟩
theorem asks_value (T b : Nat) (q : UInt8) (w : World) (h : Bk w b 9 #[.string ⟨#[q]⟩]) (hb : b ≠ T) : AsksB T w (.func (.func 121) #[] #[.pointer (some ⟨b, 0, none⟩)]) (fun c => c != q) :=
  ⟨_, _, rfl, Go.Proofs.enters_of Tryz.func121 (by kernel_rfl) rfl, fun c W hW => (value1_any q c b W (hW.bk h h.lt hb)).mono fun e w' h => ⟨h.1, 0, h.2⟩⟩
set_option maxHeartbeats 4000000 in
set_option maxRecDepth 100000 in
theorem value_any (T : Nat) (s : ByteArray) (r : List UInt8) (w : World) (h : TX 58 w T s r) (hs : s.size ≤ 100000000) (hE : Env T w) :
    Calls Tryz.prog 106 #[.pointer (some ⟨T, 0, none⟩)] w fun e w' => ValOut T s (valL r) e w' ∧ Tn T w.heap.size w w' := by
  have HTX := Lib.hid h
  have HENV := Lib.hid hE
  have hT := h.lt
  have HOV := Lib.hid (fun (m : ByteArray) (l : List UInt8) (W : World) (a : TX 58 W T s l) (b : m.size ≤ 1000) => over_any T s m l W a hs b)
  have HRU := Lib.hid (fun (f : Value) (p : UInt8 → Bool) (l : List UInt8) (W : World) (a : TX 58 W T s l) (b : AsksB T W f p) => run_any T s f p l W a hs b)
  clear h hE
  go_enter Tryz.func106, Tryz.ntmps106
  go_wp2_with fail
  obtain ⟨Q, hQ⟩ : ∃ Q, w.heap.size = Q := ⟨_, rfl⟩
  rw [hQ] at hT ⊢
  have HQ := Lib.hid hQ
  go_loopw [10] (fun i wr => ∃ n : Nat, n ≤ 2 ∧ i = .int .i64 n ∧ Hid (∀ m, m < n → ∀ t, r ≠ qOf m :: t) ∧ Hid (TX 58 wr T s r) ∧ Hid (Bk wr Q 9 #[.string ⟨#[34]⟩, .string ⟨#[39]⟩]) ∧ Hid (Tn T Q w wr)) (fun i _ => 2 - (intOf i).toNat)
  case atStart =>
    have hQe := HQ.out
    subst hQe
    exact ⟨0, by omega, rfl, Lib.hid (fun m hm => by omega), HTX.out.alloc _, Bk.new w _ _, (Tn.refl T _ w).alloc (Nat.le_refl _) _⟩
  case round =>
    obtain ⟨n, hn, rfl, hno, htx, hbk, htn⟩ := hrel
    have hsw := htn.out.size
    have hQs := hbk.out.lt
    have HER : Hid (Env T wr) := Base.tn HENV.out htn.out (by have := HQ.out; omega)
    by_cases hlt : n < 2
    · have d0 : wr.cell? ⟨Q, n, none⟩ = some (.string ⟨#[qOf n]⟩) := by
        rw [hbk.out.cell]
        obtain rfl | rfl : n = 0 ∨ n = 1 := by omega
        · rfl
        · rfl
      have hq := Lib.hid (qOf_or n)
      have HNO := hno
      obtain ⟨q, hqe⟩ : ∃ q, qOf n = q := ⟨_, rfl⟩
      have HQE := Lib.hid hqe
      rw [hqe] at d0 hq
      clear hqe
      have hsz : (⟨#[q]⟩ : ByteArray).size = 1 := rfl
      have gB : decide ((n : Int) < 2) = true := decide_eq_true (by omega)
      obtain ⟨b, hb⟩ : ∃ b, wr.heap.size = b := ⟨_, rfl⟩
      have hbT : b ≠ T := by omega
      have HT1 : Hid (TX 58 (wr.alloc (.cells #[.string ⟨#[q]⟩] 9)) T s r) := htx.out.alloc _
      have HB1 : Hid (Bk (wr.alloc (.cells #[.string ⟨#[q]⟩] 9)) b 9 #[.string ⟨#[q]⟩]) := by unfold Hid; rw [← hb]; exact Bk.new wr _ _
      have HN1 : Hid (Tn T Q w (wr.alloc (.cells #[.string ⟨#[q]⟩] 9))) := htn.out.alloc (by omega) _
      have HK1 : Hid (Bk (wr.alloc (.cells #[.string ⟨#[q]⟩] 9)) Q 9 #[.string ⟨#[34]⟩, .string ⟨#[39]⟩]) := hbk.out.alloc _
      obtain ⟨W1, hW1⟩ : ∃ W1, wr.alloc (.cells #[.string ⟨#[q]⟩] 9) = W1 := ⟨_, rfl⟩
      have hs1 : W1.heap.size = b + 1 := by rw [← hW1, World.size_alloc, hb]
      rw [hW1] at HT1 HB1 HN1 HK1
      have e1 : W1.cell? ⟨b, 0, none⟩ = some (.string ⟨#[q]⟩) := HB1.out.cell 0
      have HS1 := Lib.hid hs1
      clear hs1
      rcases one_prefix q r with ⟨hp, t, hrt, ho⟩ | ⟨hp, ho, hne⟩
      · have HO1 := Lib.hid (HOV.out ⟨#[q]⟩ r W1 HT1.out (by rw [hsz]; omega))
        rw [show (⟨#[q]⟩ : ByteArray).data.toList = [q] from rfl, hp, ho] at HO1
        have htl : t.length ≤ s.size := by have := htx.out.len; rw [hrt] at this; simp at this; omega
        have HRT := Lib.hid hrt
        obtain ⟨X, hX⟩ : ∃ X, t.takeWhile (fun c => c != q) = X := ⟨_, rfl⟩
        obtain ⟨Y, hY⟩ : ∃ Y, t.dropWhile (fun c => c != q) = Y := ⟨_, rfl⟩
        have hXl : X.length ≤ s.size := by have := while_len (fun c => c != q) t; rw [hX] at this; omega
        have hVS := Lib.hid (fun (r3 : List UInt8) (e : Y = q :: r3) => val_shut (q := q) (t := t) (r := r3) hq.out (by rw [hY]; exact e))
        have hVO := Lib.hid (fun (e : ∀ r3, Y ≠ q :: r3) => val_open (q := q) (t := t) hq.out (by rw [hY]; exact e))
        rw [hX] at hVS
        have HRX := Lib.hid (fun (W : World) (a : TX 58 W T s t) (c : Bk W b 9 #[.string ⟨#[q]⟩]) => HRU.out _ _ t W a (asks_value T b q W c hbT))
        rw [hX, hY] at HRX
        obtain ⟨BX, hBX⟩ : ∃ BX : ByteArray, bts X = BX := ⟨_, rfl⟩
        have hBXl : BX.data.toList = X := by rw [← hBX]
        have HBA := Lib.hid (fun (W : World) (a : Env T W) => back_any BX W a.tabs.1 a.tabs.2 (by rw [Lib.size_eq, hBXl]; omega))
        rw [hBXl] at HBA
        rw [hBX] at HRX
        clear hp ho hrt hX hY hBX hBXl
        go_wp2_with fail
        clear hW1
        refine HO1.out.mono ?_
        rintro e w1 ⟨rfl, t1, n1⟩
        have T1 := Lib.hid t1
        have B1 := Lib.hid (n1.bk HB1.out (by have := HS1.out; omega) hbT)
        have N1 : Hid (Tn T Q w w1) := HN1.out.then n1 (by have := HS1.out; omega)
        have E1 : Hid (Env T w1) := Base.tn HENV.out N1.out (by omega)
        have z1 : Hid (W1.heap.size ≤ w1.heap.size) := n1.size
        clear t1 n1
        go_wp2_with fail
        refine (HRX.out w1 T1.out B1.out).mono ?_
        rintro e w2 ⟨rfl, t2, n2⟩
        have T2 := Lib.hid t2
        have B2 := Lib.hid (n2.bk B1.out B1.out.lt hbT)
        have N2 : Hid (Tn T Q w w2) := N1.out.then n2 (by have := HS1.out; have := z1.out; omega)
        have E2 : Hid (Env T w2) := Base.tn HENV.out N2.out (by omega)
        have z2 : Hid (w1.heap.size ≤ w2.heap.size) := n2.size
        clear t2 n2
        go_wp2_with fail
        refine (HBA.out w2 E2.out).mono ?_
        rintro e w3 ⟨rfl, b3⟩
        have T3 := Lib.hid (T2.out.below b3 T2.out.lt)
        have N3 : Hid (Tn T Q w w3) := N2.out.then (.of b3) (by have := HS1.out; have := z1.out; have := z2.out; omega)
        have c3 : w3.cell? ⟨b, 0, none⟩ = some (.string ⟨#[q]⟩) := (B2.out.below b3 B2.out.lt).cell 0
        have z3 : Hid (w2.heap.size ≤ w3.heap.size) := b3.size
        clear b3
        rcases one_prefix q Y with ⟨hp, r3, hr3, ho⟩ | ⟨hp, ho, hne⟩
        · have HO3 := Lib.hid (HOV.out ⟨#[q]⟩ Y w3 T3.out (by rw [hsz]; omega))
          rw [show (⟨#[q]⟩ : ByteArray).data.toList = [q] from rfl, hp, ho] at HO3
          have hv := hVS.out r3 hr3
          rcases backV_cases X with ⟨x, hx1, hx2⟩ | ⟨m, hm, hx1, hx2⟩
          · rw [hx1] at hv
            have HV : Hid (valL r = some (x, r3)) := by unfold Hid; rw [HRT.out, hv]; rfl
            have HX2 := Lib.hid hx2
            clear hp ho hr3 hv hx1 hx2
            rw [HX2.out]
            go_wp2_with fail
            refine HO3.out.mono ?_
            rintro e w4 ⟨rfl, t4, n4⟩
            have T4 := Lib.hid t4
            have N4 : Hid (Tn T Q w w4) := N3.out.then n4 (by have := HS1.out; have := z1.out; have := z2.out; have := z3.out; omega)
            clear t4 n4
            go_wp2_with fail
            go_ret2
            exact ⟨ValOut.yes HV.out ⟨rfl, T4.out⟩, by rw [HQ.out]; exact N4.out⟩
          · rw [hx1] at hv
            have HV : Hid (valL r = none) := by unfold Hid; rw [HRT.out, hv]; rfl
            have HX2 := Lib.hid hx2
            have hm2 : (m == 0) = false := by simpa using hm
            clear hp ho hr3 hv hx1 hx2 hm
            rw [HX2.out]
            go_wp2_with fail
            refine HO3.out.mono ?_
            rintro e w4 ⟨rfl, t4, n4⟩
            have T4 := Lib.hid t4
            have N4 : Hid (Tn T Q w w4) := N3.out.then n4 (by have := HS1.out; have := z1.out; have := z2.out; have := z3.out; omega)
            clear t4 n4
            go_wp2_with fail
            go_ret2
            exact ⟨ValOut.no HV.out _ r3 ⟨rfl, T4.out⟩, by rw [HQ.out]; exact N4.out⟩
        · have HO3 := Lib.hid (HOV.out ⟨#[q]⟩ Y w3 T3.out (by rw [hsz]; omega))
          rw [show (⟨#[q]⟩ : ByteArray).data.toList = [q] from rfl, hp, ho] at HO3
          have HV : Hid (valL r = none) := by unfold Hid; rw [HRT.out]; exact hVO.out hne
          clear hp ho hne
          obtain ⟨u, m, hx2⟩ : ∃ (u : ByteArray) (m : Int), backV X = .tuple #[.string u, .int .i64 m] := by
            rcases backV_cases X with ⟨x, _, hx2⟩ | ⟨m, _, _, hx2⟩
            · exact ⟨_, _, hx2⟩
            · exact ⟨_, _, hx2⟩
          have HX2 := Lib.hid hx2
          clear hx2
          rw [HX2.out]
          go_wp2_with fail
          refine HO3.out.mono ?_
          rintro e w4 ⟨rfl, t4, n4⟩
          have T4 := Lib.hid t4
          have N4 : Hid (Tn T Q w w4) := N3.out.then n4 (by have := HS1.out; have := z1.out; have := z2.out; have := z3.out; omega)
          clear t4 n4
          go_wp2_with fail
          go_ret2
          exact ⟨ValOut.no HV.out _ Y ⟨rfl, T4.out⟩, by rw [HQ.out]; exact N4.out⟩
      · have HO1 := Lib.hid (HOV.out ⟨#[q]⟩ r W1 HT1.out (by rw [hsz]; omega))
        rw [show (⟨#[q]⟩ : ByteArray).data.toList = [q] from rfl, hp, ho] at HO1
        have hno2 : Hid (∀ m, m < n + 1 → ∀ t, r ≠ qOf m :: t) := fun m hm t => by
          rcases Nat.lt_or_ge m n with h | h
          · exact HNO.out m h t
          · obtain rfl : m = n := by omega
            rw [HQE.out]
            exact hne t
        clear hp ho hne
        go_wp2_with fail
        clear hW1
        refine HO1.out.mono ?_
        rintro e w1 ⟨rfl, t1, n1⟩
        have T1 := Lib.hid t1
        have K1 := Lib.hid (n1.bk HK1.out HK1.out.lt (by omega))
        have N1 : Hid (Tn T Q w w1) := HN1.out.then n1 (by have := HS1.out; omega)
        clear t1 n1
        go_wp2_with fail
        go_roundw
        case rel => exact ⟨n + 1, by omega, by go_num, hno2, T1.out, K1.out, N1.out⟩
        case measure => simp [intOf]; omega
    · have gB : decide ((n : Int) < 2) = false := decide_eq_false (by omega)
      have HV : Hid (valL r = none) := val_other (fun m hm t => hno.out m (by omega) t)
      go_wp2_with fail
      go_ret2
      exact ⟨ValOut.no HV.out _ r ⟨rfl, htx.out⟩, by rw [HQ.out]; exact htn.out⟩
end Go.Proofs.YtbkfmbkamocllaaGreatDoor
/-
  package token: an attribute.
-/
namespace Go.Proofs.YtbkfmbkamocllaaGreatDoor
open Go.RowKit Tk

/-- How a call of a method stands: its own block D, the text's block T below it. -/
structure Sk (T D : Nat) (td : TypeId) (ds : Array Value) (w W : World) : Prop where
  tn : Tn T D w W
  bk : Bk W D td ds
  env : Env T W
  lt : T < D
theorem Sk.start {T : Nat} {w : World} (td : TypeId) (ds : Array Value) (h : Env T w) (hT : T < w.heap.size) : Sk T w.heap.size td ds w (w.alloc (.cells ds td)) :=
  ⟨(Tn.refl _ _ _).alloc (Nat.le_refl _) _, Bk.new w _ _, h.tn ((Tn.refl _ _ _).alloc (Nat.le_refl _) _) hT, hT⟩
theorem Sk.step {T D : Nat} {td : TypeId} {ds : Array Value} {w W W' : World} (h : Sk T D td ds w W) (k : Tn T W.heap.size W W') : Sk T D td ds w W' :=
  ⟨h.tn.then k (Nat.le_of_lt h.bk.lt), k.bk h.bk h.bk.lt (by have := h.lt; omega), h.env.tn k (Nat.lt_trans h.lt h.bk.lt), h.lt⟩
theorem Sk.belo {T D : Nat} {td : TypeId} {ds : Array Value} {w W W' : World} (h : Sk T D td ds w W) (k : Below W.heap.size W W') : Sk T D td ds w W' := h.step (.of k)
theorem empty_bts (l : List UInt8) : (bts l).toList.isEmpty = l.isEmpty := by rw [ByteArray.toList_mk]

/-- what an attribute answers -/
def AttOut (T : Nat) (s : ByteArray) (o : Option (Att × List UInt8)) (e : Ending) (w' : World) : Prop := match o with
  | some p => e = .returned (.tuple #[.agg #[.string (bts p.1.1), .string (bts p.1.2)], .bool true]) ∧ TX 58 w' T s p.2
  | none => ∃ u v r, e = .returned (.tuple #[.agg #[.string u, .string v], .bool false]) ∧ TX 58 w' T s r
theorem AttOut.of {T : Nat} {s : ByteArray} {r n x r6 : List UInt8} {y nn : ByteArray} {A N I ok : Bool} {e : Ending} {w' : World} (hn : bts n = nn)
    (h1 : (A || N || !I || !ok) = true → attrL r = none) (h2 : A = false → N = false → I = true → ok = true → attrL r = some ((n, x), r6) ∧ bts x = y)
    (he : e = .returned (.tuple #[.agg #[.string nn, .string y], .bool (!A && (!N && (I && ok)))])) (ht : TX 58 w' T s r6) : AttOut T s (attrL r) e w' := by
  by_cases hb : (A || N || !I || !ok) = true
  · rw [h1 hb]
    refine ⟨nn, y, r6, ?_, ht⟩
    rw [he]
    have : (!A && (!N && (I && ok))) = false := by revert hb; cases A <;> cases N <;> cases I <;> cases ok <;> simp
    rw [this]
  · have : A = false ∧ N = false ∧ I = true ∧ ok = true := by revert hb; cases A <;> cases N <;> cases I <;> cases ok <;> simp
    obtain ⟨rfl, rfl, rfl, rfl⟩ := this
    obtain ⟨h3, h4⟩ := h2 rfl rfl rfl rfl
    rw [h3]
    exact ⟨by rw [he, ← hn, ← h4]; rfl, ht⟩
theorem attr_none {r : List UInt8} {A N I ok : Bool} (hA : (r.takeWhile bl).isEmpty = A) (hN : (nameL (r.dropWhile bl)).1.isEmpty = N) (hI : [61].isPrefixOf ((nameL (r.dropWhile bl)).2.dropWhile bl) = I)
    (hv : ok = false → valL ((over [61] ((nameL (r.dropWhile bl)).2.dropWhile bl)).dropWhile bl) = none) (h : (A || N || !I || !ok) = true) : attrL r = none := by
  unfold attrL
  cases hA0 : (r.takeWhile bl).isEmpty with
  | true => rw [if_pos (List.isEmpty_iff.1 hA0)]
  | false =>
    rw [if_neg (fun e => by rw [e] at hA0; cases hA0)]
    unfold attrB
    cases hN0 : (nameL (r.dropWhile bl)).1.isEmpty with
    | true => rw [if_pos (List.isEmpty_iff.1 hN0)]
    | false =>
      rw [if_neg (fun e => by rw [e] at hN0; cases hN0)]
      rcases one_prefix 61 ((nameL (r.dropWhile bl)).2.dropWhile bl) with ⟨hp, t, e, ho⟩ | ⟨hp, ho, hne⟩
      · rw [e]
        simp only
        rw [hA0] at hA
        rw [hN0] at hN
        rw [hp] at hI
        subst hA hN hI
        have hok : ok = false := by simpa using h
        have := hv hok
        rw [ho] at this
        rw [this]
        rfl
      · split
        · rename_i e; exact absurd e (hne _)
        · rfl
theorem attr_some {r x r6 : List UInt8} (hA : (r.takeWhile bl).isEmpty = false) (hN : (nameL (r.dropWhile bl)).1.isEmpty = false) (hI : [61].isPrefixOf ((nameL (r.dropWhile bl)).2.dropWhile bl) = true)
    (hv : valL ((over [61] ((nameL (r.dropWhile bl)).2.dropWhile bl)).dropWhile bl) = some (x, r6)) : attrL r = some (((nameL (r.dropWhile bl)).1, x), r6) := by
  unfold attrL
  rw [if_neg (fun e => by rw [e] at hA; cases hA)]
  unfold attrB
  rw [if_neg (fun e => by rw [e] at hN; cases hN)]
  rcases one_prefix 61 ((nameL (r.dropWhile bl)).2.dropWhile bl) with ⟨hp, t, e, ho⟩ | ⟨hp, ho, hne⟩
  · rw [ho] at hv
    rw [e]
    simp only
    rw [hv]
    rfl
  · rw [hp] at hI; cases hI
set_option maxHeartbeats 4000000 in
set_option maxRecDepth 100000 in
theorem attr_any (T : Nat) (s : ByteArray) (r : List UInt8) (w : World) (h : TX 58 w T s r) (hs : s.size ≤ 100000000) (hE : Env T w) :
    Calls Tryz.prog 93 #[.pointer (some ⟨T, 0, none⟩)] w fun e w' => AttOut T s (attrL r) e w' ∧ Tn T w.heap.size w w' := by
  have HRU := Lib.hid (fun (l : List UInt8) (W : World) (a : TX 58 W T s l) => run_any T s _ bl l W a hs (asks_blank T W))
  have HNA := Lib.hid (fun (l : List UInt8) (W : World) (a : TX 58 W T s l) => name_any T s l W a hs)
  have HOV := Lib.hid (fun (l : List UInt8) (W : World) (a : TX 58 W T s l) => over_any T s ⟨#[61]⟩ l W a hs (by show 1 ≤ 1000; omega))
  have HVA := Lib.hid (fun (l : List UInt8) (W : World) (a : TX 58 W T s l) (b : Env T W) => value_any T s l W a hs b)
  have S0 := Lib.hid (Sk.start 45 #[.string ⟨#[]⟩, .string ⟨#[]⟩] hE h.lt)
  have T0 := Lib.hid (h.alloc (.cells #[.string ⟨#[]⟩, .string ⟨#[]⟩] 45))
  obtain ⟨bb, hbb⟩ : ∃ bb, bts (r.takeWhile bl) = bb := ⟨_, rfl⟩
  have hA := empty_bts (r.takeWhile bl)
  rw [hbb] at hA
  obtain ⟨A, hA1⟩ : ∃ A, (r.takeWhile bl).isEmpty = A := ⟨_, rfl⟩
  rw [hA1] at hA
  obtain ⟨nn, hnn⟩ : ∃ nn, bts (nameL (r.dropWhile bl)).1 = nn := ⟨_, rfl⟩
  have hN := empty_bts (nameL (r.dropWhile bl)).1
  rw [hnn] at hN
  obtain ⟨N, hN1⟩ : ∃ N, (nameL (r.dropWhile bl)).1.isEmpty = N := ⟨_, rfl⟩
  rw [hN1] at hN
  obtain ⟨I, hI1⟩ : ∃ I, [61].isPrefixOf ((nameL (r.dropWhile bl)).2.dropWhile bl) = I := ⟨_, rfl⟩
  have HA1 := Lib.hid hA1
  have HN1 := Lib.hid hN1
  have HI1 := Lib.hid hI1
  have HNN := Lib.hid hnn
  have HBB := Lib.hid hbb
  obtain ⟨Q, hQ⟩ : ∃ Q, w.heap.size = Q := ⟨_, rfl⟩
  have HQ := Lib.hid hQ
  clear h hE hbb hnn hA1 hN1 hI1 hQ
  go_enter Tryz.func93, Tryz.ntmps93
  go_wp2_with fail
  refine (HRU.out r _ T0.out).mono ?_
  rintro e w1 ⟨rfl, t1, n1⟩
  have T1 := Lib.hid t1
  have S1 := Lib.hid (S0.out.step n1)
  clear t1 n1
  rw [HBB.out]
  go_wp2_with fail
  refine (HNA.out _ w1 T1.out).mono ?_
  rintro e w2 ⟨rfl, t2, n2⟩
  have T2 := Lib.hid t2
  have S2 := Lib.hid (S1.out.step n2)
  clear t2 n2
  rw [HNN.out]
  go_wp2_with fail
  refine (HRU.out _ w2 T2.out).mono ?_
  rintro e w3 ⟨rfl, t3, n3⟩
  have T3 := Lib.hid t3
  have S3 := Lib.hid (S2.out.step n3)
  clear t3 n3
  go_wp2_with fail
  refine (HOV.out _ w3 T3.out).mono ?_
  rintro e w4 ⟨rfl, t4, n4⟩
  have T4 := Lib.hid t4
  have S4 := Lib.hid (S3.out.step n4)
  clear t4 n4
  rw [HI1.out]
  go_wp2_with fail
  refine (HRU.out _ w4 T4.out).mono ?_
  rintro e w5 ⟨rfl, t5, n5⟩
  have T5 := Lib.hid t5
  have S5 := Lib.hid (S4.out.step n5)
  clear t5 n5
  go_wp2_with fail
  refine (HVA.out _ w5 T5.out S5.out.env).mono ?_
  rintro e w6 ⟨v6, n6⟩
  have S6 := Lib.hid (S5.out.step n6)
  have HFin : Hid (∃ (ok : Bool) (y : ByteArray) (r6 x : List UInt8), e = .returned (.tuple #[.string y, .bool ok]) ∧ TX 58 w6 T s r6 ∧ ((A || N || !I || !ok) = true → attrL r = none) ∧ (A = false → N = false → I = true → ok = true → attrL r = some (((nameL (r.dropWhile bl)).1, x), r6) ∧ bts x = y)) := by
    cases hv : valL ((over [61] ((nameL (r.dropWhile bl)).2.dropWhile bl)).dropWhile bl) with
    | none =>
      rw [hv] at v6
      obtain ⟨u, r6, rfl, t6⟩ := v6
      exact ⟨false, u, r6, [], rfl, t6, attr_none HA1.out HN1.out HI1.out (fun _ => hv), fun _ _ _ h => by cases h⟩
    | some p =>
      obtain ⟨x, r6⟩ := p
      rw [hv] at v6
      obtain ⟨rfl, t6⟩ := v6
      refine ⟨true, bts x, r6, x, rfl, t6, attr_none HA1.out HN1.out HI1.out (fun h => by cases h), fun a b c _ => ⟨attr_some ?_ ?_ ?_ hv, rfl⟩⟩
      · rw [HA1.out]; exact a
      · rw [HN1.out]; exact b
      · rw [HI1.out]; exact c
  clear v6 n6
  obtain ⟨ok, y, r6, x, rfl, t6, f1, f2⟩ := HFin.out
  have HF := Lib.hid (fun (e : Ending) (W : World) he ht => AttOut.of (T := T) (s := s) (e := e) (w' := W) HNN.out f1 f2 he ht)
  have T6 := Lib.hid t6
  have c0 : w6.cell? ⟨w.heap.size, 0, none⟩ = some (.string ⟨#[]⟩) := S6.out.bk.cell 0
  have c1 : w6.cell? ⟨w.heap.size, 1, none⟩ = some (.string ⟨#[]⟩) := S6.out.bk.cell 1
  have g0 : w6.frozen? ⟨w.heap.size, 0, none⟩ = false := S6.out.bk.free 0
  have g1 : w6.frozen? ⟨w.heap.size, 1, none⟩ = false := S6.out.bk.free 1
  have K6 := Lib.hid (S6.out.bk.two (.string nn) (.string y))
  have N6 : Hid (Tn T w.heap.size w ((w6.setCell ⟨w.heap.size, 0, none⟩ (.string nn)).setCell ⟨w.heap.size, 1, none⟩ (.string y))) := (S6.out.tn.setHigh (p := ⟨w.heap.size, 0, none⟩) (Nat.le_refl _) _).setHigh (p := ⟨w.heap.size, 1, none⟩) (Nat.le_refl _) _
  have X6 : Hid (TX 58 ((w6.setCell ⟨w.heap.size, 0, none⟩ (.string nn)).setCell ⟨w.heap.size, 1, none⟩ (.string y)) T s r6) := (t6.far (p := ⟨w.heap.size, 0, none⟩) (by have := S6.out.lt; show T ≠ w.heap.size; omega) _).far (p := ⟨w.heap.size, 1, none⟩) (by have := S6.out.lt; show T ≠ w.heap.size; omega) _
  have q0 : World.cell? ((w6.setCell ⟨w.heap.size, 0, none⟩ (.string nn)).setCell ⟨w.heap.size, 1, none⟩ (.string y)) ⟨w.heap.size, 0, none⟩ = some (.string nn) := K6.out.cell 0
  have q1 : World.cell? ((w6.setCell ⟨w.heap.size, 0, none⟩ (.string nn)).setCell ⟨w.heap.size, 1, none⟩ (.string y)) ⟨w.heap.size, 1, none⟩ = some (.string y) := K6.out.cell 1
  clear f1 f2 t6 HFin
  cases A <;> cases N <;> cases I <;> cases ok
  all_goals
    go_wp2_with fail
    first
      | exact bodyPost_ret (v := .tuple #[.agg #[.string nn, .string y], .bool false]) (by simp [results, Tryz.results93, go_sem, q0, q1]) rfl ⟨HF.out _ _ rfl X6.out, N6.out⟩
      | exact bodyPost_ret (v := .tuple #[.agg #[.string nn, .string y], .bool true]) (by simp [results, Tryz.results93, go_sem, q0, q1]) rfl ⟨HF.out _ _ rfl X6.out, N6.out⟩
end Go.Proofs.YtbkfmbkamocllaaGreatDoor
/-
  package token: is an attribute of that name there already? slices.ContainsFunc over attributes; the next attribute of a name of its own.
-/
namespace Go.Proofs.YtbkfmbkamocllaaGreatDoor
open Go.RowKit Tk

/-- A question that may be asked of an attribute. -/
def AsksA (w : World) (v : Value) (p : Att → Bool) : Prop := ∃ (F : FuncId) (cb : Array Value), v = .func (.func F) #[] cb ∧ (∀ args W, (callFunc F args).run Tryz.prog W = .ok (.enter F args) W) ∧
  ∀ (a : Att) W, Below w.heap.size w W → Calls Tryz.prog F (#[agA a] ++ cb) W fun e w' => e = .returned (.bool (p a)) ∧ Below W.heap.size W w'
theorem any_hit {α : Type} {x : List α} {p : α → Bool} {k : Nat} {a : α} (h : x[k]? = some a) (hp : p a = true) : x.any p = true := by
  rw [List.any_eq_true]
  exact ⟨a, List.mem_of_getElem? h, hp⟩
theorem any_miss {α : Type} {x : List α} {p : α → Bool} (h : ∀ k a, k < x.length → x[k]? = some a → p a = false) : x.any p = false := by
  rw [List.any_eq_false]
  intro c hc
  obtain ⟨k, hk, rfl⟩ := List.getElem_of_mem hc
  have := h k _ hk (List.getElem?_eq_getElem hk)
  simpa using this
set_option maxHeartbeats 1000000 in
theorem indexA_any (v u : Value) (x : List Att) (p : Att → Bool) (w : World) (hv : RowA w v x) (hl : x.length ≤ 1000000000) (hp : AsksA w u p) :
    Calls Tryz.prog 86 #[v, u] w fun e w' => (∃ z : Int, e = .returned (.int .i64 z) ∧ decide (z ≥ 0) = x.any p) ∧ Below w.heap.size w w' := by
  obtain ⟨F, cb, rfl, eg, hp⟩ := hp
  obtain ⟨A, cap, rfl, hx⟩ := hv.cells
  have HX := Lib.hid hx
  have HP := Lib.hid hp
  have HH := Lib.hid (fun (k : Nat) (a : Att) (h : x[k]? = some a) (h2 : p a = true) => any_hit h h2)
  have HM := Lib.hid (fun (h : ∀ k a, k < x.length → x[k]? = some a → p a = false) => any_miss h)
  clear hx hp hv
  go_enter Tryz.func86, Tryz.ntmps86
  go_wp2_with fail
  go_loopw [8] (fun i wr => ∃ (k : Nat), k ≤ x.length ∧ i = .int .i64 k ∧ Hid (∀ j a, j < k → x[j]? = some a → p a = false) ∧ Below w.heap.size w wr) (fun i _ => x.length - (intOf i).toNat)
  case atStart => exact ⟨0, Nat.zero_le _, rfl, Lib.hid (fun j a h => absurd h (Nat.not_lt_zero _)), Below.refl _ _⟩
  case round =>
    obtain ⟨k, hk, rfl, hno, hb⟩ := hrel
    have hsw := hb.size
    by_cases hlt : k < x.length
    · obtain ⟨g, rfl, hlb, hc⟩ := HX.out (by omega)
      obtain ⟨c, hcx⟩ : ∃ c, x[k]? = some c := ⟨_, List.getElem?_eq_getElem hlt⟩
      obtain ⟨c0, c1⟩ := hc k c hcx
      rw [← hb.cell (p := ⟨g, k * 2, none⟩) hlb] at c0
      rw [← hb.cell (p := ⟨g, k * 2 + 1, none⟩) hlb] at c1
      have HC := Lib.hid hcx
      have HQ := Lib.hid (HP.out c)
      obtain ⟨a1, ha1⟩ : ∃ a1, bts c.1 = a1 := ⟨_, rfl⟩
      obtain ⟨a2, ha2⟩ : ∃ a2, bts c.2 = a2 := ⟨_, rfl⟩
      unfold agA at HQ
      rw [ha1] at c0 HQ
      rw [ha2] at c1 HQ
      clear hc hcx ha1 ha2
      go_wp2_with fail
      refine (HQ.out _ hb).mono ?_
      rintro e w2 ⟨rfl, b2⟩
      have hb2 : Below w.heap.size w w2 := hb.trans (b2.mono hsw)
      cases hq : p c with
      | true =>
        have hf := Lib.hid (HH.out k c HC.out hq)
        clear hq b2
        go_wp2_with fail
        go_ret
        exact ⟨⟨_, rfl, by rw [hf.out]; simp⟩, hb2⟩
      | false =>
        have hno2 : Hid (∀ j a, j < k + 1 → x[j]? = some a → p a = false) := Lib.hid (fun j a hj ha => by
          rcases Nat.lt_or_ge j k with h | h
          · exact hno.out j a h ha
          · obtain rfl : j = k := by omega
            rw [HC.out] at ha
            cases ha
            exact hq)
        clear hq b2
        go_wp2_with fail
        go_roundw
        case rel => exact ⟨k + 1, by omega, by go_num, hno2, hb2⟩
        case measure => simp [intOf]; omega
    · have hke : Hid (x.length ≤ k) := by unfold Hid; omega
      have hf := Lib.hid (HM.out (fun j a hj ha => hno.out j a (by have := hke.out; omega) ha))
      go_wp2_with fail
      go_ret
      exact ⟨⟨_, rfl, by rw [hf.out]; simp⟩, hb⟩
set_option maxHeartbeats 400000 in
theorem containsA_any (v u : Value) (x : List Att) (p : Att → Bool) (w : World) (hv : RowA w v x) (hl : x.length ≤ 1000000000) (hp : AsksA w u p) :
    Calls Tryz.prog 61 #[v, u] w fun e w' => e = .returned (.bool (x.any p)) ∧ Below w.heap.size w w' := by
  have HI := Lib.hid (indexA_any v u x p w hv hl hp)
  obtain ⟨A, cap, rfl, hx⟩ := hv
  obtain ⟨F, cb, rfl, eg, hp⟩ := hp
  obtain ⟨r, hr⟩ : ∃ r, x.any p = r := ⟨_, rfl⟩
  rw [hr] at HI ⊢
  clear hx hp hr eg
  go_enter Tryz.func61, Tryz.ntmps61
  go_wp2_with (go_at_call 86; refine HI.out.mono ?_; rintro e w1 ⟨⟨z, rfl, hz⟩, hb⟩)
  go_ret
  exact ⟨rfl, hb⟩
theorem bts_beq (a b : List UInt8) : ((bts a).toList == (bts b).toList) = (a == b) := by rw [ByteArray.toList_mk, ByteArray.toList_mk]
set_option maxHeartbeats 400000 in
theorem named_any (n : List UInt8) (y : ByteArray) (a : Att) (b : Nat) (w : World) (h : Bk w b 45 #[.string (bts n), .string y]) :
    Calls Tryz.prog 94 (#[agA a] ++ #[.pointer (some ⟨b, 0, none⟩)]) w fun e w' => e = .returned (.bool (a.1 == n)) ∧ Below w.heap.size w w' := by
  rw [← bts_beq a.1 n]
  have c0 : w.cell? ⟨b, 0, none⟩ = some (.string (bts n)) := h.cell 0
  have hb := h.lt
  have hne : b ≠ w.heap.size := by omega
  unfold agA
  obtain ⟨a1, ha1⟩ : ∃ a1, bts a.1 = a1 := ⟨_, rfl⟩
  obtain ⟨a2, ha2⟩ : ∃ a2, bts a.2 = a2 := ⟨_, rfl⟩
  obtain ⟨nn, hnn⟩ : ∃ nn, bts n = nn := ⟨_, rfl⟩
  rw [hnn] at c0 ⊢
  rw [ha1, ha2]
  clear ha1 ha2 hnn h
  go_enter Tryz.func94, Tryz.ntmps94
  go_wp2
  go_ret
  exact ⟨rfl, (Below.refl _ _).alloc (Nat.le_refl _) _⟩
theorem asks_named (n : List UInt8) (y : ByteArray) (b : Nat) (w : World) (h : Bk w b 45 #[.string (bts n), .string y]) : AsksA w (.func (.func 94) #[] #[.pointer (some ⟨b, 0, none⟩)]) (fun a => a.1 == n) :=
  ⟨_, _, rfl, Go.Proofs.enters_of Tryz.func94 (by kernel_rfl) rfl, fun a W hW => named_any n y a b W (h.below hW h.lt)⟩
end Go.Proofs.YtbkfmbkamocllaaGreatDoor
/-
  package token: the next attribute of a name of its own; all of them.
-/
namespace Go.Proofs.YtbkfmbkamocllaaGreatDoor
open Go.RowKit Tk

theorem own_no {al : List Att} {r : List UInt8} (h : attrL r = none) : nextA al r = none := by unfold nextA; rw [h]; rfl
theorem own_dup {al : List Att} {r r' : List UInt8} {a : Att} (h : attrL r = some (a, r')) : nextA al r = if al.any (fun b => b.1 == a.1) then none else some (a, r') := by unfold nextA; rw [h]; rfl
theorem AttOut.no {T : Nat} {s : ByteArray} {o : Option (Att × List UInt8)} {e : Ending} {w' : World} (h : o = none) (u v : ByteArray) (r : List UInt8) (he : e = .returned (.tuple #[.agg #[.string u, .string v], .bool false])) (ht : TX 58 w' T s r) : AttOut T s o e w' := by
  subst h
  exact ⟨u, v, r, he, ht⟩
theorem AttOut.yes {T : Nat} {s : ByteArray} {o : Option (Att × List UInt8)} {e : Ending} {w' : World} {a : Att} {r : List UInt8} (h : o = some (a, r)) (he : e = .returned (.tuple #[.agg #[.string (bts a.1), .string (bts a.2)], .bool true])) (ht : TX 58 w' T s r) : AttOut T s o e w' := by
  subst h
  exact ⟨he, ht⟩
theorem Sk.two {T D : Nat} {td : TypeId} {a b : Value} {w W : World} (h : Sk T D td #[a, b] w W) (u v : Value) :
    World.cell? ((W.setCell ⟨D, 0, none⟩ u).setCell ⟨D, 1, none⟩ v).drew ⟨D, 0, none⟩ = some u ∧ World.cell? ((W.setCell ⟨D, 0, none⟩ u).setCell ⟨D, 1, none⟩ v).drew ⟨D, 1, none⟩ = some v ∧ Tn T D w ((W.setCell ⟨D, 0, none⟩ u).setCell ⟨D, 1, none⟩ v).drew :=
  ⟨(h.bk.two u v).cell 0, (h.bk.two u v).cell 1, ((h.tn.setHigh (p := ⟨D, 0, none⟩) (Nat.le_refl _) _).setHigh (p := ⟨D, 1, none⟩) (Nat.le_refl _) _).drew⟩
theorem TX.two {ty : TypeId} {w : World} {T D : Nat} {s : ByteArray} {r : List UInt8} (h : TX ty w T s r) (hD : T ≠ D) (u v : Value) : TX ty ((w.setCell ⟨D, 0, none⟩ u).setCell ⟨D, 1, none⟩ v).drew T s r :=
  ((h.far (p := ⟨D, 0, none⟩) hD u).far (p := ⟨D, 1, none⟩) hD v).below ((Below.refl _ _).drew) (Nat.lt_succ_self _)
set_option maxHeartbeats 4000000 in
set_option maxRecDepth 100000 in
theorem nextA_any (T Bt G : Nat) (s : ByteArray) (r : List UInt8) (v : Value) (al : List Att) (w : World) (h : TX 58 w T s r) (hs : s.size ≤ 100000000) (hE : Env T w)
    (hB : Bk w Bt 56 #[.pointer (some ⟨T, 0, none⟩)]) (hG : Bk w G 143 #[v]) (hv : RowA w v al) (hl : al.length ≤ 1000000000) :
    Calls Tryz.prog 92 #[.pointer (some ⟨Bt, 0, none⟩), .pointer (some ⟨G, 0, none⟩)] w fun e w' => AttOut T s (nextA al r) e w' ∧ Tn T w.heap.size w w' := by
  have hTG : G ≠ T := by
    obtain ⟨k, _, _, hb⟩ := h
    exact hG.type_ne hb (by decide)
  have hTB : Bt ≠ T := by
    obtain ⟨k, _, _, hb⟩ := h
    exact hB.type_ne hb (by decide)
  obtain ⟨W0, hW0⟩ : ∃ W0, w.alloc (.cells #[.string ⟨#[]⟩, .string ⟨#[]⟩] 45) = W0 := ⟨_, rfl⟩
  have S0 : Hid (Sk T w.heap.size 45 #[.string ⟨#[]⟩, .string ⟨#[]⟩] w W0) := by rw [← hW0]; exact Sk.start 45 #[.string ⟨#[]⟩, .string ⟨#[]⟩] hE h.lt
  have T0 : Hid (TX 58 W0 T s r) := by rw [← hW0]; exact h.alloc _
  have z0 : W0.heap.size = w.heap.size + 1 := by rw [← hW0, World.size_alloc]
  have b0 : W0.cell? ⟨Bt, 0, none⟩ = some (.pointer (some ⟨T, 0, none⟩)) := by rw [← hW0]; exact (hB.alloc _).cell 0
  have G0 : Hid (Bk W0 G 143 #[v]) := by rw [← hW0]; exact hG.alloc _
  have V0 : Hid (RowA W0 v al) := by rw [← hW0]; exact hv.keep (KeepA.below ((Below.refl _ w).alloc (Nat.le_refl _) _))
  have HAT := Lib.hid (attr_any T s r W0 T0.out hs S0.out.env)
  have Z0 := Lib.hid z0
  have hlt := h.lt
  obtain ⟨Q, hQ⟩ : ∃ Q, w.heap.size = Q := ⟨_, rfl⟩
  have HQ := Lib.hid hQ
  rw [hQ] at S0 hlt Z0
  clear h hE hB hG hv z0
  go_enter Tryz.func92, Tryz.ntmps92
  go_wp2_with fail
  clear hW0
  refine HAT.out.mono ?_
  rintro e w1 ⟨o1, n1⟩
  have S1 := Lib.hid (S0.out.step n1)
  have G1 := Lib.hid (n1.bk G0.out G0.out.lt hTG)
  have V1 : Hid (RowA w1 v al) := V0.out.keep (by obtain ⟨k, _, _, hb⟩ := T0.out; exact KeepA.tn n1 hb (by decide))
  clear n1
  cases ha : attrL r with
  | none =>
    rw [ha] at o1
    obtain ⟨u, y, r1, rfl, t1⟩ := o1
    have T1 := Lib.hid t1
    have HN := Lib.hid (own_no (al := al) ha)
    have hQ1 : Q < w1.heap.size := S1.out.bk.lt
    have Q1 := Lib.hid hQ1
    clear t1 ha
    go_wp2_with fail
    obtain ⟨b, hb⟩ : ∃ b, w1.heap.size = b := ⟨_, rfl⟩
    obtain ⟨W2, hW2⟩ : ∃ W2, w1.alloc (.cells #[.string u, .string y] 45) = W2 := ⟨_, rfl⟩
    have S2 : Hid (Sk T Q 45 #[.string ⟨#[]⟩, .string ⟨#[]⟩] w W2) := by rw [← hW2]; exact S1.out.step ((Tn.refl _ _ _).alloc (Nat.le_refl _) _)
    have T2 : Hid (TX 58 W2 T s r1) := by rw [← hW2]; exact T1.out.alloc _
    have B2 : Hid (Bk W2 b 45 #[.string u, .string y]) := by rw [← hW2, ← hb]; exact Bk.new _ _ _
    have e0 : W2.cell? ⟨b, 0, none⟩ = some (.string u) := B2.out.cell 0
    have e1 : W2.cell? ⟨b, 1, none⟩ = some (.string y) := B2.out.cell 1
    have d0 : W2.cell? ⟨Q, 0, none⟩ = some (.string ⟨#[]⟩) := S2.out.bk.cell 0
    have d1 : W2.cell? ⟨Q, 1, none⟩ = some (.string ⟨#[]⟩) := S2.out.bk.cell 1
    have f0 : W2.frozen? ⟨Q, 0, none⟩ = false := S2.out.bk.free 0
    have f1 : W2.frozen? ⟨Q, 1, none⟩ = false := S2.out.bk.free 1
    have hbQ : b ≠ Q := by omega
    have hQb : Q ≠ b := fun e => hbQ e.symm
    rw [hb, hW2]
    clear hW2 hb hQ1
    go_region
    all_goals
      go_wp2_with fail
      obtain ⟨q0, q1, N2⟩ := S2.out.two (.string u) (.string y)
      refine bodyPost_ret (v := .tuple #[.agg #[.string u, .string y], .bool false]) (by simp [results, Tryz.results92, go_sem, q0, q1]) rfl ⟨AttOut.no HN.out u y r1 rfl (T2.out.two (by have := S2.out.lt; omega) _ _), ?_⟩
      rw [HQ.out]
      exact N2
  | some p =>
    obtain ⟨a, r1⟩ := p
    rw [ha] at o1
    obtain ⟨rfl, t1⟩ := o1
    have HN := Lib.hid (own_dup (al := al) ha)
    have hQ1 : Q < w1.heap.size := S1.out.bk.lt
    obtain ⟨b, hb⟩ : ∃ b, w1.heap.size = b := ⟨_, rfl⟩
    obtain ⟨W2, hW2⟩ : ∃ W2, w1.alloc (.cells #[.string (bts a.1), .string (bts a.2)] 45) = W2 := ⟨_, rfl⟩
    have S2 : Hid (Sk T Q 45 #[.string ⟨#[]⟩, .string ⟨#[]⟩] w W2) := by rw [← hW2]; exact S1.out.step ((Tn.refl _ _ _).alloc (Nat.le_refl _) _)
    have T2 : Hid (TX 58 W2 T s r1) := by rw [← hW2]; exact t1.alloc _
    have B2 : Hid (Bk W2 b 45 #[.string (bts a.1), .string (bts a.2)]) := by rw [← hW2, ← hb]; exact Bk.new _ _ _
    have G2 : Hid (Bk W2 G 143 #[v]) := by rw [← hW2]; exact G1.out.alloc _
    have V2 : Hid (RowA W2 v al) := by rw [← hW2]; exact V1.out.keep (KeepA.below ((Below.refl _ w1).alloc (Nat.le_refl _) _))
    have HCF : Hid (∀ W, Below W2.heap.size W2 W → Calls Tryz.prog 61 #[v, .func (.func 94) #[] #[.pointer (some ⟨b, 0, none⟩)]] W fun e w' => e = .returned (.bool (al.any (fun b => b.1 == a.1))) ∧ Below W2.heap.size W2 w') := fun W hW =>
      (containsA_any v _ al _ W (V2.out.keep (KeepA.below hW)) hl (asks_named a.1 _ b W (B2.out.below hW B2.out.lt))).mono fun e w' h => ⟨h.1, hW.trans (h.2.mono hW.size)⟩
    obtain ⟨d, hd⟩ : ∃ d, al.any (fun b => b.1 == a.1) = d := ⟨_, rfl⟩
    rw [hd] at HN HCF
    obtain ⟨x, hx⟩ : ∃ x, bts a.1 = x := ⟨_, rfl⟩
    obtain ⟨y, hy⟩ : ∃ y, bts a.2 = y := ⟨_, rfl⟩
    rw [hx, hy] at B2
    have HX := Lib.hid hx
    have HY := Lib.hid hy
    have e0 : W2.cell? ⟨b, 0, none⟩ = some (.string x) := B2.out.cell 0
    have e1 : W2.cell? ⟨b, 1, none⟩ = some (.string y) := B2.out.cell 1
    have d0 : W2.cell? ⟨Q, 0, none⟩ = some (.string ⟨#[]⟩) := S2.out.bk.cell 0
    have d1 : W2.cell? ⟨Q, 1, none⟩ = some (.string ⟨#[]⟩) := S2.out.bk.cell 1
    have f0 : W2.frozen? ⟨Q, 0, none⟩ = false := S2.out.bk.free 0
    have f1 : W2.frozen? ⟨Q, 1, none⟩ = false := S2.out.bk.free 1
    have g0 : W2.cell? ⟨G, 0, none⟩ = some v := G2.out.cell 0
    have hbQ : b ≠ Q := by omega
    have hQb : Q ≠ b := fun e => hbQ e.symm
    have L1 := Lib.hid B2.out.lt
    have L2 := Lib.hid S2.out.bk.lt
    have HV : Hid (∃ A cap, v = .slice A al.length cap) := by obtain ⟨A, cap, e, _⟩ := V2.out; exact ⟨A, cap, e⟩
    obtain ⟨A, cap, rfl⟩ := HV.out
    clear t1 ha hd hx hy HV
    rw [HX.out, HY.out] at hW2
    go_wp2_with fail
    rw [HX.out, HY.out]
    try rw [hb]
    try rw [hW2]
    clear hW2 hb hQ1
    go_region_with ((go_at_call 61; refine (HCF.out _ ?_).mono ?_; exact ⟨rfl, rfl, rfl, Nat.le_refl _, fun _ _ => rfl⟩; rintro e w3 ⟨rfl, b3⟩; have e30 : w3.cell? ⟨b, 0, none⟩ = some (.string x) := (B2.out.below b3 L1.out).cell 0; have e31 : w3.cell? ⟨b, 1, none⟩ = some (.string y) := (B2.out.below b3 L1.out).cell 1; have S3 := Lib.hid (S2.out.belo b3); have T3 := Lib.hid (T2.out.below b3 T2.out.lt); have f30 : w3.frozen? ⟨Q, 0, none⟩ = false := S3.out.bk.free 0; have f31 : w3.frozen? ⟨Q, 1, none⟩ = false := S3.out.bk.free 1; have d30 : w3.cell? ⟨Q, 0, none⟩ = some (.string ⟨#[]⟩) := S3.out.bk.cell 0; have d31 : w3.cell? ⟨Q, 1, none⟩ = some (.string ⟨#[]⟩) := S3.out.bk.cell 1; clear b3))
    all_goals
      go_wp2_with fail
      have q0 : World.cell? ((w3.setCell ⟨Q, 0, none⟩ (.string x)).setCell ⟨Q, 1, none⟩ (.string y)) ⟨Q, 0, none⟩ = some (.string x) := (S3.out.two (.string x) (.string y)).1
      have q1 : World.cell? ((w3.setCell ⟨Q, 0, none⟩ (.string x)).setCell ⟨Q, 1, none⟩ (.string y)) ⟨Q, 1, none⟩ = some (.string y) := (S3.out.two (.string x) (.string y)).2.1
      have N3 : Tn T Q w ((w3.setCell ⟨Q, 0, none⟩ (.string x)).setCell ⟨Q, 1, none⟩ (.string y)) := (S3.out.tn.setHigh (p := ⟨Q, 0, none⟩) (Nat.le_refl _) _).setHigh (p := ⟨Q, 1, none⟩) (Nat.le_refl _) _
      have X3 : TX 58 ((w3.setCell ⟨Q, 0, none⟩ (.string x)).setCell ⟨Q, 1, none⟩ (.string y)) T s r1 := T3.out.two (by have := S3.out.lt; omega) _ _
      refine bodyPost_ret (v := .tuple #[.agg #[.string x, .string y], .bool (!d)]) (by simp [results, Tryz.results92, go_sem, Act.put, q0, q1]) rfl ⟨?_, ?_⟩
      · have hn := HN.out
        cases hd : d with
        | true => rw [hd] at hn; exact AttOut.no hn x y r1 rfl X3
        | false => rw [hd] at hn; exact AttOut.yes hn (by rw [HX.out, HY.out]; rfl) X3
      · rw [HQ.out]; exact N3
end Go.Proofs.YtbkfmbkamocllaaGreatDoor
