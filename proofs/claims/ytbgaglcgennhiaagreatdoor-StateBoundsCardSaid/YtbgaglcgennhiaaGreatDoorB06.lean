import Derived.Test.YtbgaglcgennhiaaGreatDoorB05
import Derived.Test.YtbgaglcgennhiaaGreatDoorProg
import Derived.BigRegion
import Derived.Deep.LoopGhost
section
/- what is reached of it -/
namespace Go.Proofs.YtbgaglcgennhiaaGreatDoor.Sy
open Go Go.Proofs Go.Proofs.YtbgaglcgennhiaaGreatDoor Go.RowKit Go.Lib Go.Sort
variable {α : Type} {lt : α → α → Bool}
/-- so far turned: i behind X, j behind them: to change their places -/
def Rot (T : List α) (m i j : Nat) (D : Array α) : Prop := ∃ X U V Y : List α, D = (X ++ U ++ V ++ Y).toArray ∧ X.length + U.length = m ∧ U.length = i ∧ V.length = j ∧ X ++ V ++ U ++ Y = T
theorem Rot.size {T : List α} {m i j : Nat} {D : Array α} (h : Rot T m i j D) : D.size = T.length ∧ i ≤ m ∧ m + j ≤ D.size := by
  obtain ⟨X, U, V, Y, rfl, h1, h2, h3, rfl⟩ := h
  refine ⟨by simp; omega, by omega, by simp; omega⟩
theorem Rot.left [Inhabited α] {T : List α} {m i j : Nat} {D : Array α} (h : Rot T m i j D) (hij : j < i) : Rot T m (i - j) j (swN (m - i) m j D) := by
  obtain ⟨X, U, V, Y, rfl, h1, h2, h3, rfl⟩ := h
  have e : U = U.take j ++ U.drop j := (List.take_append_drop j U).symm
  have l1 : (U.take j).length = j := by rw [List.length_take]; omega
  have l2 : (U.drop j).length = i - j := by rw [List.length_drop]; omega
  generalize U.take j = U1 at e l1
  generalize U.drop j = U2 at e l2
  subst e
  have hx : m - i = X.length := by omega
  have hm : m = X.length + U1.length + U2.length := by simp at h1; omega
  have := swN_all X U1 U2 V Y j l1 h3
  refine ⟨X ++ V, U2, U1, Y, ?_, by simp; omega, l2, l1, by simp⟩
  rw [hx, hm, ← List.append_assoc X U1 U2, this]
theorem Rot.right [Inhabited α] {T : List α} {m i j : Nat} {D : Array α} (h : Rot T m i j D) (hij : i < j) : Rot T m i (j - i) (swN (m - i) (m + j - i) i D) := by
  obtain ⟨X, U, V, Y, rfl, h1, h2, h3, rfl⟩ := h
  have e : V = V.take (j - i) ++ V.drop (j - i) := (List.take_append_drop (j - i) V).symm
  have l1 : (V.take (j - i)).length = j - i := by rw [List.length_take]; omega
  have l2 : (V.drop (j - i)).length = i := by rw [List.length_drop]; omega
  generalize V.take (j - i) = V1 at e l1
  generalize V.drop (j - i) = V2 at e l2
  subst e
  have hx : m - i = X.length := by omega
  have hm : m + j - i = X.length + U.length + V1.length := by omega
  have := swN_all X U V1 V2 Y i h2 l2
  refine ⟨X, V2, V1, U ++ Y, ?_, by omega, l2, l1, by simp⟩
  rw [hx, hm, show X ++ U ++ (V1 ++ V2) ++ Y = X ++ U ++ V1 ++ V2 ++ Y by simp, this]
  simp
theorem Rot.last [Inhabited α] {T : List α} {m i : Nat} {D : Array α} (h : Rot T m i i D) : swN (m - i) m i D = T.toArray := by
  obtain ⟨X, U, V, Y, rfl, h1, h2, h3, rfl⟩ := h
  have := swN_all X U [] V Y i h2 h3
  have hx : m - i = X.length := by omega
  have hm : m = X.length + U.length + ([] : List α).length := by simp; omega
  rw [hx, hm, show X ++ U ++ V ++ Y = X ++ U ++ [] ++ V ++ Y by simp, this]
  simp

theorem swp_comm [Inhabited α] (d : Array α) (i j : Nat) (hi : i < d.size) (hj : j < d.size) : swp d i j = swp d j i := by
  apply Array.ext
  · simp [size_swp]
  · intro t h1 h2
    have g1 := swp_get d hi hj t
    have g2 := swp_get d hj hi t
    rw [getElem!_pos _ t h1] at g1
    rw [getElem!_pos _ t h2] at g2
    rw [g1, g2]
    by_cases a : t = j
    · by_cases b : t = i
      · subst a; subst b; rfl
      · rw [if_pos a, if_neg b, if_pos a]
    · by_cases b : t = i
      · rw [if_neg a, if_pos b, if_pos b]
      · rw [if_neg a, if_neg b, if_neg b, if_neg a]
theorem get_app [Inhabited α] (X Y : List α) (a : α) (i : Nat) (h : i = X.length) : (X ++ a :: Y).toArray[i]! = a := by
  subst h
  rw [getElem!_pos _ _ (by simp)]; simp

/-- x on its way down a sorted list, behind X -/
def InsR (lt : α → α → Bool) (X : List α) (x : α) (L Z : List α) (j : Nat) (D : Array α) : Prop := ∃ P Q : List α, D = (X ++ P ++ x :: (Q ++ Z)).toArray ∧ X.length + P.length = j ∧ P ++ Q = L ∧ ∀ q ∈ Q.head?, lt x q = true
theorem InsR.size {X : List α} {x : α} {L Z : List α} {j : Nat} {D : Array α} (h : InsR lt X x L Z j D) : D.size = X.length + L.length + 1 + Z.length ∧ X.length ≤ j ∧ j ≤ X.length + L.length := by
  obtain ⟨P, Q, rfl, h1, rfl, h2⟩ := h
  refine ⟨by simp; omega, by omega, by simp; omega⟩
theorem InsR.step [Inhabited α] {X : List α} {x : α} {L Z : List α} {j : Nat} {D : Array α} (h : InsR lt X x L Z j D) (hj : X.length < j) (hl : lt D[j]! D[j - 1]! = true) : InsR lt X x L Z (j - 1) (swp D j (j - 1)) := by
  obtain ⟨P, Q, rfl, h1, rfl, h2⟩ := h
  rcases List.eq_nil_or_concat P with rfl | ⟨P', z, rfl⟩
  · simp at h1; omega
  · rw [List.concat_eq_append] at h1 hl ⊢
    have e : X ++ (P' ++ [z]) ++ x :: (Q ++ Z) = (X ++ P') ++ z :: ([] ++ x :: (Q ++ Z)) := by simp
    have g1 : (X ++ (P' ++ [z]) ++ x :: (Q ++ Z)).toArray[j]! = x := get_app _ _ _ _ (by simp at h1 ⊢; omega)
    have g2 : (X ++ (P' ++ [z]) ++ x :: (Q ++ Z)).toArray[j - 1]! = z := by rw [e]; exact get_app _ _ _ _ (by simp at h1 ⊢; omega)
    rw [g1, g2] at hl
    refine ⟨P', z :: Q, ?_, by simp at h1 ⊢; omega, by simp, by simp; exact hl⟩
    have hs : (X ++ (P' ++ [z]) ++ x :: (Q ++ Z)).toArray.size = X.length + P'.length + 1 + 1 + Q.length + Z.length := by simp; omega
    rw [swp_comm _ _ _ (by rw [hs]; simp at h1; omega) (by rw [hs]; simp at h1; omega), e, swp_list _ _ _ _ _ _ _ (by simp at h1 ⊢; omega) (by simp at h1 ⊢; omega)]
    simp
theorem InsR.stop [Inhabited α] (hW : Weak lt) {X : List α} {x : α} {L Z : List α} {j : Nat} {D : Array α} (h : InsR lt X x L Z j D) (hL : Up lt L) (hj : j ≤ X.length ∨ lt D[j]! D[j - 1]! = false) : D = (X ++ insS lt x L ++ Z).toArray := by
  obtain ⟨P, Q, rfl, h1, rfl, h2⟩ := h
  rw [ins_at hW x P Q hL ?_ h2]
  · simp
  · intro p hp
    rcases List.eq_nil_or_concat P with rfl | ⟨P', z, rfl⟩
    · simp at hp
    · rw [List.concat_eq_append] at h1 hj hp
      have e : X ++ (P' ++ [z]) ++ x :: (Q ++ Z) = (X ++ P') ++ z :: ([] ++ x :: (Q ++ Z)) := by simp
      have g1 : (X ++ (P' ++ [z]) ++ x :: (Q ++ Z)).toArray[j]! = x := get_app _ _ _ _ (by simp at h1 ⊢; omega)
      have g2 : (X ++ (P' ++ [z]) ++ x :: (Q ++ Z)).toArray[j - 1]! = z := by rw [e]; exact get_app _ _ _ _ (by simp at h1 ⊢; omega)
      rw [g1, g2] at hj
      simp at hp
      subst hp
      rcases hj with hj | hj
      · simp at h1; omega
      · exact hj
/-- i of S are sorted, behind X -/
def OutR (lt : α → α → Bool) (X S Y : List α) (i : Nat) (D : Array α) : Prop := D = (X ++ sortS lt (S.take (i - X.length)) ++ S.drop (i - X.length) ++ Y).toArray
theorem OutR.start (X S Y : List α) : OutR lt X S Y (X.length + 1) (X ++ S ++ Y).toArray := by
  unfold OutR
  rw [show X.length + 1 - X.length = 1 by omega]
  cases S with
  | nil => simp [sortS]
  | cons s S => simp [sortS, insS]
theorem OutR.inner {X S Y : List α} {i : Nat} {D : Array α} (h : OutR lt X S Y i D) (hi : X.length < i) (hl : i < X.length + S.length) :
    ∃ x, S[i - X.length]? = some x ∧ InsR lt X x (sortS lt (S.take (i - X.length))) (S.drop (i - X.length + 1) ++ Y) i D := by
  refine ⟨S[i - X.length]'(by omega), List.getElem?_eq_getElem (by omega), sortS lt (S.take (i - X.length)), [], ?_, ?_, by simp, by simp⟩
  · unfold OutR at h
    rw [h, List.drop_eq_getElem_cons (show i - X.length < S.length by omega)]
    simp only [List.append_assoc, List.cons_append, List.nil_append]
  · rw [sortS_len, List.length_take]; omega
theorem OutR.next {X S Y : List α} {i : Nat} {x : α} (hi : X.length < i) (hx : S[i - X.length]? = some x) : OutR lt X S Y (i + 1) (X ++ insS lt x (sortS lt (S.take (i - X.length))) ++ (S.drop (i - X.length + 1) ++ Y)).toArray := by
  unfold OutR
  rw [show i + 1 - X.length = i - X.length + 1 by omega, List.take_add_one, hx]
  simp only [Option.toList_some, sortS_snoc]
  simp
theorem OutR.last {X S Y : List α} {i : Nat} {D : Array α} (h : OutR lt X S Y i D) (hi : X.length + S.length ≤ i) : D = (X ++ sortS lt S ++ Y).toArray := by
  unfold OutR at h
  rw [h, List.take_of_length_le (by omega), List.drop_eq_nil_of_le (by omega)]
  simp
theorem OutR.size {X S Y : List α} {i : Nat} {D : Array α} (h : OutR lt X S Y i D) : D.size = X.length + S.length + Y.length := by
  unfold OutR at h
  rw [h]; simp [sortS_len]; omega
end Go.Proofs.YtbgaglcgennhiaaGreatDoor.Sy
end
section
/- what is reached of it -/
namespace Go.Proofs.YtbgaglcgennhiaaGreatDoor
open Go.RowKit Go.Sort Sy
def encS (s : ByteArray) : List Value := [.string s]
set_option maxHeartbeats 4000000 in
set_option maxRecDepth 100000 in
theorem swapRangeS_any (a b n len cap : Nat) (d : Array ByteArray) (fv : Value) (W0 W : World) (B : Nat) (hd : d.size = len) (hlen : len ≤ 1000000000) (ha : a + n ≤ len) (hb : b + n ≤ len) (hab : a + n ≤ b) (S : St encS 1 W0 B d W) :
    Calls Tryz.prog 288 #[.slice (some ⟨B, 0, none⟩) len cap, .int .i64 a, .int .i64 b, .int .i64 n, fv] W fun e w' => e = .returned (.tuple #[]) ∧ St encS 1 W0 B (swN a b n d) w' := by
  have HS := Lib.hid S
  have HD := Lib.hid hd
  clear S hd
  go_enter Tryz.func288, Tryz.ntmps288
  go_wp2_with fail
  go_loopw [10] (fun i wr => ∃ k, k ≤ n ∧ i = .int .i64 (k : Nat) ∧ Hid (St encS 1 W0 B (swN a b k d) wr)) (fun i _ => n - (intOf i).toNat)
  case atStart => exact ⟨0, Nat.zero_le _, rfl, HS.out⟩
  case round =>
    obtain ⟨k, hk, rfl, SK⟩ := hrel
    by_cases hlt : k < n
    · have hz : (swN a b k d).size = len := by rw [size_swN]; exact HD.out
      have i1 : IntKind.i64.wrap ((a : Int) + (k : Int)) = ((a + k : Nat) : Int) := by rw [IntKind.wrap_i64]; omega
      have i2 : IntKind.i64.wrap ((b : Int) + (k : Int)) = ((b + k : Nat) : Int) := by rw [IntKind.wrap_i64]; omega
      obtain ⟨p, hp⟩ : ∃ p, a + k = p := ⟨_, rfl⟩
      obtain ⟨q, hq⟩ : ∃ q, b + k = q := ⟨_, rfl⟩
      rw [hp] at i1
      rw [hq] at i2
      have hpl : p < len := by omega
      have hql : q < len := by omega
      have cp := SK.out.cell p (by rw [hz]; exact hpl)
      have cq := SK.out.cell q (by rw [hz]; exact hql)
      have SW1 := Lib.hid (SK.out.swapS p q (by rw [hz]; exact hpl) (by rw [hz]; exact hql))
      obtain ⟨x, hx⟩ : ∃ x, (swN a b k d)[p]! = x := ⟨_, rfl⟩
      obtain ⟨y, hy⟩ : ∃ x, (swN a b k d)[q]! = x := ⟨_, rfl⟩
      rw [hx] at cp SW1
      rw [hy] at cq SW1
      obtain ⟨cp1, cp2⟩ := cp
      obtain ⟨cq1, cq2⟩ := cq
      have HPQ : Hid (a + k = p ∧ b + k = q) := ⟨hp, hq⟩
      have hpq : p ≠ q := by omega
      have cq3 : (wr.setCell ⟨B, p, none⟩ (.string y)).cell? ⟨B, q, none⟩ = some (.string y) := by
        rw [World.cell?_setCell_other _ _ _ _ (by simp)]; exact cq1
      clear hx hy hp hq hz SK
      go_wp2_with fail
      go_region
      have S3 : Hid (St encS 1 W0 B (swN a b (k + 1) d) ((wr.setCell ⟨B, p, none⟩ (.string y)).setCell ⟨B, q, none⟩ (.string x)).drew) := by
        unfold Hid
        rw [swN, HPQ.out.1, HPQ.out.2]
        exact SW1.out.drew
      go_wp2_with fail
      go_roundw
      case rel => exact ⟨k + 1, by omega, by go_num, S3⟩
      case measure => simp [intOf]; omega
    · have hkn : k = n := by omega
      subst hkn
      go_wp2_with fail
      go_end0
      exact ⟨rfl, SK.out⟩

set_option maxHeartbeats 4000000 in
set_option maxRecDepth 100000 in
theorem rotateS_any (X U V Y : List ByteArray) (a m b len cap : Nat) (fv : Value) (W0 W : World) (B : Nat) (hl : (X ++ U ++ V ++ Y).length = len) (hlen : len ≤ 1000000000) (ha : X.length = a) (hm : a + U.length = m) (hb : m + V.length = b) (hU : 0 < U.length) (hV : 0 < V.length)
    (S : St encS 1 W0 B (X ++ U ++ V ++ Y).toArray W) :
    Calls Tryz.prog 287 #[.slice (some ⟨B, 0, none⟩) len cap, .int .i64 a, .int .i64 m, .int .i64 b, fv] W fun e w' => e = .returned (.tuple #[]) ∧ St encS 1 W0 B (X ++ V ++ U ++ Y).toArray w' := by
  obtain ⟨T, hT⟩ : ∃ T, X ++ V ++ U ++ Y = T := ⟨_, rfl⟩
  have hTl : T.length = len := by rw [← hT, ← hl]; simp; omega
  have R0 : Hid (Rot T m U.length V.length (X ++ U ++ V ++ Y).toArray) := ⟨X, U, V, Y, rfl, by omega, rfl, rfl, hT⟩
  rw [hT]
  obtain ⟨D, hD⟩ : ∃ D, (X ++ U ++ V ++ Y).toArray = D := ⟨_, rfl⟩
  rw [hD] at S R0
  obtain ⟨u, hu⟩ : ∃ u, U.length = u := ⟨_, rfl⟩
  obtain ⟨v, hv⟩ : ∃ u, V.length = u := ⟨_, rfl⟩
  rw [hu] at R0 hm hU
  rw [hv] at R0 hb hV
  have HS := Lib.hid S
  have HTL := Lib.hid hTl
  have hbl : b ≤ len := by have := R0.out.size; omega
  clear S hD hT hl hu hv ha hTl
  have e1 : (m : Int) - (a : Int) = (u : Nat) := by omega
  have e2 : (b : Int) - (m : Int) = (v : Nat) := by omega
  have w1 : IntKind.i64.wrap ((m : Int) - (a : Int)) = (u : Nat) := by rw [IntKind.wrap_i64]; omega
  have w2 : IntKind.i64.wrap ((b : Int) - (m : Int)) = (v : Nat) := by rw [IntKind.wrap_i64]; omega
  have hml : m ≤ len := by omega
  clear hm hb e1 e2
  go_enter Tryz.func287, Tryz.ntmps287
  go_wp2_with fail
  go_loopw [10, 11] (fun iv jv wr => ∃ (i j : Nat) (D : Array ByteArray), iv = .int .i64 (i : Nat) ∧ jv = .int .i64 (j : Nat) ∧ 0 < i ∧ 0 < j ∧ Hid (Rot T m i j D) ∧ Hid (St encS 1 W0 B D wr)) (fun iv jv _ => (intOf iv).toNat + (intOf jv).toNat)
  case atStart => exact ⟨u, v, D, rfl, rfl, hU, hV, R0, HS.out⟩
  case round =>
    clear HS R0 w1 w2 hU hV
    obtain ⟨i, j, D, rfl, rfl, hi, hj, HR, SD⟩ := hrel
    have hsz := HR.out.size
    have hdl : D.size = len := hsz.1.trans HTL.out
    have him : i ≤ m := hsz.2.1
    have hmj : m + j ≤ len := by rw [← hdl]; exact hsz.2.2
    clear hsz
    obtain ⟨p, hp⟩ : ∃ p, m - i = p := ⟨_, rfl⟩
    have w3 : IntKind.i64.wrap ((m : Int) - (i : Int)) = (p : Int) := by rw [IntKind.wrap_i64]; omega
    by_cases hij : i = j
    · subst hij
      have hne : ((i : Int) != (i : Int)) = false := by simp
      have HQ := Lib.hid (swapRangeS_any p m i len cap D fv W0 wr B hdl hlen (by omega) (by omega) (by omega) SD.out)
      have HL := Lib.hid HR.out.last
      rw [hp] at HL
      clear hp
      go_wp2_with (go_at_call 288; refine HQ.out.mono ?_; rintro e w' ⟨rfl, S2⟩)
      go_end0
      exact ⟨rfl, by rw [← HL.out]; exact S2⟩
    · have hne : ((i : Int) != (j : Int)) = true := by simp; omega
      by_cases hgt : j < i
      · have hg : (j : Int) < (i : Int) := by omega
        obtain ⟨q, hq⟩ : ∃ q, i - j = q := ⟨_, rfl⟩
        have w4 : IntKind.i64.wrap ((i : Int) - (j : Int)) = (q : Int) := by rw [IntKind.wrap_i64]; omega
        have HQ := Lib.hid (swapRangeS_any p m j len cap D fv W0 wr B hdl hlen (by omega) (by omega) (by omega) SD.out)
        have H2 := Lib.hid (HR.out.left hgt)
        rw [hp, hq] at H2
        have hq0 : 0 < q := by omega
        have hqi : q + j = i := by omega
        clear hp hq
        go_wp2_with (go_at_call 288; refine HQ.out.mono ?_; rintro e w' ⟨rfl, S2⟩)
        go_roundw
        case rel => exact ⟨q, j, _, rfl, rfl, hq0, hj, H2, S2⟩
        case measure => simp [intOf]; omega
      · have hlt : i < j := by omega
        have hg : ¬ (j : Int) < (i : Int) := by omega
        obtain ⟨q, hq⟩ : ∃ q, j - i = q := ⟨_, rfl⟩
        obtain ⟨x, hx⟩ : ∃ x, m + j = x := ⟨_, rfl⟩
        obtain ⟨y, hy⟩ : ∃ y, x - i = y := ⟨_, rfl⟩
        have w4 : IntKind.i64.wrap ((j : Int) - (i : Int)) = (q : Int) := by rw [IntKind.wrap_i64]; omega
        have w5 : IntKind.i64.wrap ((m : Int) + (j : Int)) = (x : Int) := by rw [IntKind.wrap_i64]; omega
        have w6 : IntKind.i64.wrap ((x : Int) - (i : Int)) = (y : Int) := by rw [IntKind.wrap_i64]; omega
        have HQ := Lib.hid (swapRangeS_any p y i len cap D fv W0 wr B hdl hlen (by omega) (by omega) (by omega) SD.out)
        have H2 := Lib.hid (HR.out.right hlt)
        rw [hp, hx, hy, hq] at H2
        have hq0 : 0 < q := by omega
        have hqi : q + i = j := by omega
        clear hp hq hx hy
        go_wp2_with (go_at_call 288; refine HQ.out.mono ?_; rintro e w' ⟨rfl, S2⟩)
        go_roundw
        case rel => exact ⟨i, q, _, rfl, rfl, hi, hq0, H2, S2⟩
        case measure => simp [intOf]; omega
end Go.Proofs.YtbgaglcgennhiaaGreatDoor
end
