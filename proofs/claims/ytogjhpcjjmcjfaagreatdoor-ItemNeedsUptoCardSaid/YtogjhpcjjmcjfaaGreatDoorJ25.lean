import Derived.Test.YtogjhpcjjmcjfaaGreatDoorRows
import Derived.Test.YtogjhpcjjmcjfaaGreatDoorJ03
import Derived.WalkKit
import Derived.WalkSpells
import Derived.WalkLawsBesides
import Derived.Lib.SlicesS
import Derived.Laws.AppendOwn
import Derived.Deep.QuietTactic
import Derived.BigQuiet
import Derived.Laws.OwnMore
import Derived.Test.YtogjhpcjjmcjfaaGreatDoorJ24
import Derived.Test.YtogjhpcjjmcjfaaGreatDoorJ20
section
/- what is reached of it -/
namespace Go.Proofs.YtogjhpcjjmcjfaaGreatDoor
open Go.RowKit
theorem infoStr : (Tryz.prog.info? 9).map (fun i => (i.zero, i.size, i.bytes)) = some (some (.string ⟨#[]⟩), 1, 16) := by kernel_rfl

/-- Strings as values. -/
def strs (x : List ByteArray) : List Value := x.map Value.string
theorem strs_length (x : List ByteArray) : (strs x).length = x.length := List.length_map _
theorem strs_snoc (x : List ByteArray) (c : ByteArray) : strs (x ++ [c]) = strs x ++ [.string c] := by simp [strs]
theorem strs_get {x : List ByteArray} {i : Nat} {b : ByteArray} (h : x[i]? = some b) : (strs x)[i]? = some (.string b) := by simp [strs, h]
attribute [irreducible] strs
/-- The slice v, made by the call (above block B), holds just the strings x. -/
def OwnT (B : Nat) (w : World) (v : Value) (x : List ByteArray) : Prop := w.ownsRow B 9 1 v x.length (strs x)
theorem OwnT.nil (B : Nat) (w : World) : OwnT B w (.slice none 0 0) [] := by
  unfold OwnT
  rw [show strs [] = [] from by unfold strs; rfl]
  exact World.ownsRow_nil _ _ _ _
theorem OwnT.below {B : Nat} {w w' : World} {v : Value} {x : List ByteArray} (h : OwnT B w v x) (hb : Below w.heap.size w w') : OwnT B w' v x := by
  have h' : w.ownsRow B 9 1 v x.length (strs x) := h
  refine h'.kept (w' := w') (row := some w.heap.size) ⟨hb.os, hb.tape, hb.output, hb.size, fun i hi _ => hb.block i hi⟩ ?_
  cases ho : v.ownBlock with
  | none => exact .inl rfl
  | some g => exact .inr (fun e => by have := (h'.lt g ho).2; injection e with e; omega)
theorem OwnT.low {B : Nat} {w : World} {v : Value} {x : List ByteArray} (h : OwnT B w v x) {j : Nat} (hj : v.ownBlock = some j) : B ≤ j ∧ j < w.heap.size := World.ownsRow.lt h j hj
theorem OwnT.slice {B : Nat} {w : World} {v : Value} {x : List ByteArray} (h : OwnT B w v x) : ∃ A cap, v = .slice A x.length cap := by
  rcases h.2 with ⟨rfl, h0⟩ | ⟨g, cap, cur, rfl, _⟩
  · exact ⟨none, 0, by rw [h0]⟩
  · exact ⟨_, _, rfl⟩

theorem add_at0 (g : Nat) : (⟨g, 0, none⟩ : Addr).add 0 = ⟨g, 0, none⟩ := by unfold Addr.add; split <;> simp_all
/-- An append of one value to a row that the call has made. -/
theorem push_one {ops : Array Oper} {rest : List Oper} {o : Oper} {a : Act} {Q : Exit → Act → World → Prop} {t e : TypeId} {i : TypeInfo} {z : Value} {bytes : Nat} (ht : Tryz.prog.underlying t = some (.slice e)) (hi : Tryz.prog.info? e = some i) (hz : i.zero = some z)
    (h1 : i.size = 1) (hby : i.bytes = bytes) (hzc : z.cells.size = 1) (hgd : o.guard = none) (s x : Operand) (ho : o.op = .call { callee := .builtin .append, args := #[s, x], argTypes := #[t, t] })
    (B : Nat) (v : Value) (n : Nat) (xs : List Value) (u : Value) (w0 : World) (hs : a.eval s = v) (hown : w0.ownsRow B e 1 v n xs) (hx : a.eval x = .slice (some ⟨w0.heap.size, 0, none⟩) 1 1) (hu : u.oneCell' = true)
    (hlen : (n + 1) * bytes ≤ 140737488355328) (hn : n ≤ 1000000000000) (hB : B ≤ w0.heap.size)
    (h : ∀ v' w', w'.ownsRow B e 1 v' (n + 1) (xs ++ [u]) → Below B w0 w' → wpList Tryz.prog ops Q rest (a.put o.dst v') w') : wpList Tryz.prog ops Q (o :: rest) a (w0.alloc (.cells #[u] e)) := by
  refine wpList_append_own _ hgd s x t ho B e i z 1 bytes ht hi hz h1 hby hzc (by decide) v n xs hs (hown.alloc _) ⟨w0.heap.size, 0, none⟩ 1 1 [u] hx rfl ?_ ?_ ?_ hlen (by simp; omega) ?_
  · intro j y hj
    match j, hj with
    | 0, hj =>
      simp at hj
      subst hj
      rw [add_at0]
      exact cell_of_row _ _ 0 #[_] e (0, 0) (heap_alloc_new w0 _)
    | j + 1, hj => simp at hj
  · intro y hy
    simp at hy
    subst hy
    exact hu
  · unfold maxLen; omega
  · intro v' w' hown' hg _
    exact h v' w' hown' (((Below.refl B w0).alloc hB _).grown hg (by simp; omega) (fun j hj => (World.ownsRow.lt hown j hj).1))
theorem push_str {ops : Array Oper} {rest : List Oper} {o : Oper} {a : Act} {Q : Exit → Act → World → Prop} (hgd : o.guard = none) (s x : Operand) (ho : o.op = .call { callee := .builtin .append, args := #[s, x], argTypes := #[22, 22] })
    (B : Nat) (v : Value) (xs : List ByteArray) (b : ByteArray) (w0 : World) (hs : a.eval s = v) (hown : OwnT B w0 v xs) (hx : a.eval x = .slice (some ⟨w0.heap.size, 0, none⟩) 1 1) (hn : xs.length ≤ 1000000000000) (hB : B ≤ w0.heap.size)
    (h : ∀ v' w', OwnT B w' v' (xs ++ [b]) → Below B w0 w' → wpList Tryz.prog ops Q rest (a.put o.dst v') w') : wpList Tryz.prog ops Q (o :: rest) a (w0.alloc (.cells #[.string b] 9)) := by
  obtain ⟨i0, hi, hz0, hz1, hz2⟩ := info_parts infoStr
  refine push_one Tryz.underlying22 hi hz0 hz1 hz2 rfl hgd s x ho B v xs.length (strs xs) (.string b) w0 hs hown hx rfl (by omega) hn hB fun v' w' h1 h2 => h v' w' ?_ h2
  unfold OwnT
  rw [strs_snoc, List.length_append, List.length_singleton]
  exact h1

/-- A slice that can be read: it holds just the strings x, below block B (nil and empty ones too). -/
def ReadT (B : Nat) (w : World) (v : Value) (x : List ByteArray) : Prop :=
  ∃ A cap, v = .slice A x.length cap ∧ (0 < x.length → ∃ ad : Addr, A = some ad ∧ ad.block < B ∧ ∀ i b, x[i]? = some b → w.cell? (ad.add i) = some (.string b))
theorem ReadT.below {B : Nat} {w w' : World} {v : Value} {x : List ByteArray} (h : ReadT B w v x) (hb : Below B w w') : ReadT B w' v x := by
  obtain ⟨A, cap, rfl, h2⟩ := h
  refine ⟨A, cap, rfl, fun h0 => ?_⟩
  obtain ⟨ad, rfl, hl, hc⟩ := h2 h0
  refine ⟨ad, rfl, hl, fun i b hi => (hb.cell ?_).trans (hc i b hi)⟩
  rw [addBlock]
  exact hl
theorem ReadT.more {B C : Nat} {w : World} {v : Value} {x : List ByteArray} (h : ReadT B w v x) (hB : B ≤ C) : ReadT C w v x := by
  obtain ⟨A, cap, rfl, h2⟩ := h
  refine ⟨A, cap, rfl, fun h0 => ?_⟩
  obtain ⟨ad, rfl, hl, hc⟩ := h2 h0
  exact ⟨ad, rfl, by omega, hc⟩
theorem ReadT.nil (B : Nat) (w : World) (cap : Nat) : ReadT B w (.slice none 0 cap) [] := ⟨none, cap, rfl, fun h => absurd h (by simp)⟩
theorem OwnT.reads {B : Nat} {w : World} {v : Value} {x : List ByteArray} (h : OwnT B w v x) : ReadT w.heap.size w v x := by
  have h' : w.ownsRow B 9 1 v x.length (strs x) := h
  rcases h'.2 with ⟨rfl, h0⟩ | ⟨g, cap, cur, rfl, _, hh, _⟩
  · exact ⟨none, 0, by rw [h0], fun h => absurd h (by omega)⟩
  · refine ⟨_, cap, rfl, fun h0 => ⟨_, rfl, lt_of_block hh, fun i b hi => ?_⟩⟩
    exact h'.cells (g := g) rfl i _ (strs_get hi)
/-- A list that lies in a new block. -/
theorem ReadT.made {w : World} {g cap n o : Nat} {x : List ByteArray} (hn : x.length = n) (hg : g < w.heap.size) (hc : ∀ i b, x[i]? = some b → w.cell? ⟨g, o + i, none⟩ = some (.string b)) : ReadT w.heap.size w (.slice (some ⟨g, o, none⟩) n cap) x := by
  subst hn
  refine ⟨_, cap, rfl, fun _ => ⟨_, rfl, hg, fun i b hi => ?_⟩⟩
  rw [add_at]
  exact hc i b hi

set_option maxHeartbeats 400000 in
theorem plainOneT (a b : ByteArray) (w : World) : Calls Tryz.prog 43 #[.string a, .string b] w fun e w' => e = .returned (.bool (a.toList == b.toList)) ∧ w = w' := by
  go_enter Tryz.func43, Tryz.ntmps43
  go_wp2
  go_ret
  exact ⟨rfl, rfl⟩

theorem below_drewN1 (w : World) (n : Nat) : Below w.heap.size w (w.drewN n) := ⟨rfl, rfl, rfl, Nat.le_refl _, fun _ _ => rfl⟩
theorem below_drewN3 (w : World) (n m : Nat) : Below w.heap.size w ((w.drewN n).drewN m) := ⟨rfl, rfl, rfl, Nat.le_refl _, fun _ _ => rfl⟩
set_option maxHeartbeats 1000000 in
theorem sameT_any (B : Nat) (v u : Value) (x y : List ByteArray) (w : World) (hx : ReadT B w v x) (hy : ReadT B w u y) (hl : x.length ≤ 140737488355328) (hm : y.length ≤ 140737488355328) :
    Calls Tryz.prog 42 #[v, u, .func (.func 43) #[] #[]] w fun e w' => e = .returned (.bool (decide (x = y))) ∧ Below w.heap.size w w' := by
  obtain ⟨A, cap, rfl, hx2⟩ := hx
  obtain ⟨A', cap', rfl, hy2⟩ := hy
  by_cases hne : x.length = y.length
  · have HNE := Lib.hid hne
    have hbne : (((x.length : Nat) : Int) != ((y.length : Nat) : Int)) = false := by simp [hne]
    clear hne
    go_enter Tryz.func42, Tryz.ntmps42
    go_wp2_with fail
    go_loopw [7] (fun i wr => ∃ (k n : Nat), k ≤ x.length ∧ i = .int .i64 k ∧ Hid (x.take k = y.take k) ∧ wr = w.drewN n) (fun i _ => x.length - (intOf i).toNat)
    case atStart => exact ⟨0, 0, Nat.zero_le _, rfl, Lib.hid (by simp), rfl⟩
    case round =>
      obtain ⟨k, n, hk, rfl, hte, rfl⟩ := hrel
      by_cases hlt : k < x.length
      · have hlty : k < y.length := by rw [← HNE.out]; exact hlt
        obtain ⟨ad, rfl, hlb, hc⟩ := hx2 (by omega)
        obtain ⟨bd, rfl, hlb', hd⟩ := hy2 (by omega)
        obtain ⟨p, hp⟩ : ∃ p, x[k]? = some p := ⟨_, List.getElem?_eq_getElem hlt⟩
        obtain ⟨q, hq⟩ : ∃ q, y[k]? = some q := ⟨_, List.getElem?_eq_getElem hlty⟩
        have c1 := hc k p hp
        have d1 := hd k q hq
        have HP := Lib.hid hp
        have HQ := Lib.hid hq
        clear hp hq hc hd hx2 hy2
        go_wp2_with fail
        go_quiet ((go_at_call 43; exact (plainOneT p q _).mono (fun _ _ h => ⟨h.1, _, h.2.symm⟩)))
        go_wp2_with fail
        · have hpq : (p.toList == q.toList) = false := by simpa using (show (!(p.toList == q.toList)) = true by assumption)
          have hq2 : decide (x = y) = false := by
            refine decide_eq_false (fun e => ?_)
            subst e
            have e2 : p = q := Option.some.inj (HP.out.symm.trans HQ.out)
            subst e2
            simp at hpq
          go_ret
          exact ⟨ret_bool hq2.symm, below_drewN3 w n nq⟩
        · have hpq : (p.toList == q.toList) = true := by simpa using (show (!(p.toList == q.toList)) = false by assumption)
          have e2 : p = q := (Lib.bytes_beq_iff p q).1 hpq
          go_roundw
          case rel => exact ⟨k + 1, n + nq, by omega, by go_num, take_succ_same HP.out HQ.out hte.out e2, rfl⟩
          case measure => simp [intOf]; omega
      · have hke : k = x.length := by omega
        have hxy : decide (x = y) = true := by
          have h1 := hte.out
          rw [hke, List.take_length, HNE.out, List.take_length] at h1
          exact decide_eq_true h1
        clear hke
        go_wp2_with fail
        go_ret
        exact ⟨ret_bool hxy.symm, below_drewN1 w n⟩
  · have hbne : (((x.length : Nat) : Int) != ((y.length : Nat) : Int)) = true := by simp; omega
    have hq : decide (x = y) = false := decide_eq_false (fun e => hne (congrArg List.length e))
    rw [hq]
    clear hq hne
    go_enter Tryz.func42, Tryz.ntmps42
    go_wp2_with fail
    go_ret
    exact ⟨rfl, Below.refl _ _⟩
set_option maxHeartbeats 400000 in
/-- help.Plain: two lists of strings held against each other. -/
theorem plainT_any (B : Nat) (v u : Value) (x y : List ByteArray) (w : World) (hx : ReadT B w v x) (hy : ReadT B w u y) (hl : x.length ≤ 140737488355328) (hm : y.length ≤ 140737488355328) :
    Calls Tryz.prog 19 #[v, u] w fun e w' => e = .returned (.bool (decide (x = y))) ∧ Below w.heap.size w w' := by
  have HS := Lib.hid (sameT_any B v u x y w hx hy hl hm)
  clear hx hy
  go_enter Tryz.func19, Tryz.ntmps19
  go_wp2_with (go_at_call 42; refine HS.out.mono ?_; rintro e w2 ⟨rfl, hb⟩)
  go_ret
  exact ⟨rfl, hb⟩
end Go.Proofs.YtogjhpcjjmcjfaaGreatDoor
end
section
/- what is reached of it -/
namespace Go.Proofs.YtogjhpcjjmcjfaaGreatDoor.Tx
def valB (c : UInt8) : List UInt8 := if c = 92 ∨ c = 44 ∨ c = 59 then [92, c] else if c = 10 then [92, 110] else if c = 13 then [] else [c]
/-- A text as a value. -/
def val (l : List UInt8) : List UInt8 := l.flatMap valB
/-- What a "\" makes of the byte behind it. -/
def unb (c : UInt8) : Option UInt8 := if c = 92 ∨ c = 44 ∨ c = 59 then some c else if c = 110 ∨ c = 78 then some 10 else none
/-- The text that a value is. -/
def plain : List UInt8 → Option (List UInt8)
  | [] => some []
  | c :: t => if c = 92 then (match t with
    | [] => none
    | d :: u => match unb d with
      | some x => (plain u).map (x :: ·)
      | none => none) else (plain t).map (c :: ·)
theorem plain_nil : plain [] = some [] := rfl
theorem plain_end : plain [92] = none := by unfold plain; rw [if_pos rfl]
theorem plain_bad {d : UInt8} (u : List UInt8) (h : unb d = none) : plain (92 :: d :: u) = none := by
  unfold plain
  rw [if_pos rfl]
  simp only [h]
theorem plain_esc {d x : UInt8} (u : List UInt8) (h : unb d = some x) : plain (92 :: d :: u) = (plain u).map (x :: ·) := by
  conv => lhs; unfold plain
  rw [if_pos rfl]
  simp only [h]
theorem plain_on {c : UInt8} (t : List UInt8) (h : c ≠ 92) : plain (c :: t) = (plain t).map (c :: ·) := by
  conv => lhs; unfold plain
  rw [if_neg h]
theorem plain_run : ∀ (p t : List UInt8), (∀ c ∈ p, c ≠ 92) → plain (p ++ t) = (plain t).map (p ++ ·)
  | [], t, _ => by rw [List.nil_append]; cases plain t <;> rfl
  | c :: p, t, h => by
    rw [List.cons_append, plain_on _ (h c (by simp)), plain_run p t (fun d hd => h d (by simp [hd]))]
    cases plain t <;> rfl
def spl (sep : UInt8) : Bool → List UInt8 → List UInt8 → List (List UInt8)
  | _, cur, [] => [cur]
  | e, cur, c :: t => if c = sep ∧ e = false then cur :: spl sep (c == 92 && !e) [] t else spl sep (c == 92 && !e) (cur ++ [c]) t
theorem spl_nil (sep : UInt8) (e : Bool) (cur : List UInt8) : spl sep e cur [] = [cur] := rfl
theorem spl_cut {sep : UInt8} {e : Bool} (cur : List UInt8) {c : UInt8} (t : List UInt8) (h : c = sep ∧ e = false) : spl sep e cur (c :: t) = cur :: spl sep (c == 92 && !e) [] t := by
  conv => lhs; unfold spl
  rw [if_pos h]
theorem spl_on {sep : UInt8} {e : Bool} (cur : List UInt8) {c : UInt8} (t : List UInt8) (h : ¬ (c = sep ∧ e = false)) : spl sep e cur (c :: t) = spl sep (c == 92 && !e) (cur ++ [c]) t := by
  conv => lhs; unfold spl
  rw [if_neg h]
/-- all but the first one without their first byte -/
def tails : List (List UInt8) → List (List UInt8)
  | [] => []
  | h :: t => h :: t.map List.tail
def split1 (sep : UInt8) (l : List UInt8) : List (List UInt8) := spl sep false [] l
end Go.Proofs.YtogjhpcjjmcjfaaGreatDoor.Tx
end
section
/- what is reached of it -/
namespace Go.Proofs.YtogjhpcjjmcjfaaGreatDoor
open Go.RowKit Tx
/-- strings out of lists of bytes -/
def sts (l : List (List UInt8)) : List ByteArray := l.map fun x => ⟨x.toArray⟩
/-- how the document's loop stands: acc are told, the open piece goes from f to k -/
def SStand (sep : UInt8) (l : List UInt8) (acc : List (List UInt8)) (f k : Nat) (e : Bool) : Prop := f ≤ k ∧ k ≤ l.length ∧ acc.length ≤ f ∧ split1 sep l = acc ++ spl sep e ((l.drop f).take (k - f)) (l.drop k)
theorem SStand.start (sep : UInt8) (l : List UInt8) : SStand sep l [] 0 0 false := ⟨Nat.le_refl _, Nat.zero_le _, Nat.le_refl _, by simp [split1]⟩
theorem SStand.done {sep : UInt8} {l : List UInt8} {acc : List (List UInt8)} {f k : Nat} {e : Bool} (h : SStand sep l acc f k e) (hk : l.length ≤ k) : split1 sep l = acc ++ [l.drop f] := by
  obtain ⟨h1, h2, _, h3⟩ := h
  rw [h3, List.drop_eq_nil_of_le hk, spl_nil, List.take_of_length_le (by rw [List.length_drop]; omega)]
theorem SStand.cut {sep c : UInt8} {l : List UInt8} {acc : List (List UInt8)} {f k : Nat} {e : Bool} (h : SStand sep l acc f k e) (hc : l[k]? = some c) (hs : c = sep ∧ e = false) : SStand sep l (acc ++ [(l.drop f).take (k - f)]) (k + 1) (k + 1) (c == 92 && !e) := by
  obtain ⟨h1, h2, h4, h3⟩ := h
  obtain ⟨hk, he⟩ := List.getElem?_eq_some_iff.1 hc
  refine ⟨Nat.le_refl _, hk, by rw [List.length_append, List.length_singleton]; omega, ?_⟩
  rw [h3, List.drop_eq_getElem_cons hk, he, spl_cut _ _ hs]
  simp
theorem SStand.on {sep c : UInt8} {l : List UInt8} {acc : List (List UInt8)} {f k : Nat} {e : Bool} (h : SStand sep l acc f k e) (hc : l[k]? = some c) (hs : ¬ (c = sep ∧ e = false)) : SStand sep l acc f (k + 1) (c == 92 && !e) := by
  obtain ⟨h1, h2, h4, h3⟩ := h
  obtain ⟨hk, he⟩ := List.getElem?_eq_some_iff.1 hc
  refine ⟨by omega, hk, h4, ?_⟩
  have hd : l.drop k = c :: l.drop (k + 1) := by rw [List.drop_eq_getElem_cons hk, he]
  rw [h3, hd, spl_on _ _ hs, take_snoc hd h1]

end Go.Proofs.YtogjhpcjjmcjfaaGreatDoor
end
section
/- what is reached of it -/
namespace Go.Proofs.YtogjhpcjjmcjfaaGreatDoor
open Go.RowKit Tx
/-- how the document's loop stands: acc are told, the open row goes from f to k -/
def UStand (l : List UInt8) (acc : List (List UInt8)) (f k : Nat) : Prop := f ≤ k ∧ k ≤ l.length ∧ acc.length ≤ f ∧ Tx.unfold l = (rowsA ((l.drop f).take (k - f)) (l.drop k)).bind (linesA acc)
theorem UStand.start (l : List UInt8) : UStand l [] 0 0 := ⟨Nat.le_refl _, Nat.zero_le _, Nat.le_refl _, by simp [Tx.unfold]⟩
section
variable {l : List UInt8} {acc : List (List UInt8)} {f k : Nat} {c : UInt8}
theorem at_drop (hc : l[k]? = some c) : l.drop k = c :: l.drop (k + 1) := by
  obtain ⟨hk, he⟩ := List.getElem?_eq_some_iff.1 hc
  rw [List.drop_eq_getElem_cons hk, he]
theorem UStand.stop (h : UStand l acc f k) (hk : l.length ≤ k) : Tx.unfold l = if f < l.length then none else some acc := by
  obtain ⟨h1, h2, _, h3⟩ := h
  obtain rfl : k = l.length := by omega
  rw [h3, List.drop_length, rowsA_nil, List.take_of_length_le (by rw [List.length_drop]; omega)]
  by_cases hf : f < l.length
  · rw [if_pos hf, if_neg (drop_ne hf)]; rfl
  · rw [if_neg hf, if_pos (List.drop_eq_nil_of_le (by omega))]; rfl
theorem UStand.last (h : UStand l acc f k) (hc : l[k]? = some 13) (hk : l.length ≤ k + 1) : Tx.unfold l = none := by
  rw [h.2.2.2, at_drop hc, List.drop_eq_nil_of_le hk, rowsA_13]; rfl
theorem UStand.on (h : UStand l acc f k) (hc : l[k]? = some c) (h1 : c ≠ 10) (h2 : c ≠ 13) : UStand l acc f (k + 1) := by
  obtain ⟨g1, g2, g4, g3⟩ := h
  obtain ⟨hk, _⟩ := List.getElem?_eq_some_iff.1 hc
  refine ⟨by omega, hk, g4, ?_⟩
  rw [g3, at_drop hc, rowsA_on _ _ h1 h2, take_snoc (at_drop hc) g1]
theorem UStand.ended (h : UStand l acc f k) (hc : l[k]? = some 13) (hd : l[k + 1]? = some 10) : Tx.unfold l = ((rowsA [] (l.drop (k + 2))).map ((l.drop f).take (k - f) :: ·)).bind (linesA acc) := by
  rw [h.2.2.2, at_drop hc, at_drop hd, rowsA_end]
theorem UStand.more (h : UStand l acc f k) (hc : l[k]? = some 13) (hd : l[k + 1]? = some 10) (hr : cont ((l.drop f).take (k - f)) = true) (ha : acc ≠ []) : UStand l (addLast acc ((l.drop f).take (k - f)).tail) (k + 2) (k + 2) := by
  obtain ⟨hk, _⟩ := List.getElem?_eq_some_iff.1 hd
  refine ⟨Nat.le_refl _, hk, by rw [addLast_len ha]; have := h.2.2.1; have := h.1; omega, ?_⟩
  rw [h.ended hc hd, Nat.sub_self, List.take_zero]
  cases rowsA [] (l.drop (k + 2)) with
  | none => rfl
  | some t => exact linesA_more t hr ha
theorem UStand.new (h : UStand l acc f k) (hc : l[k]? = some 13) (hd : l[k + 1]? = some 10) (hr : cont ((l.drop f).take (k - f)) = false) : UStand l (acc ++ [(l.drop f).take (k - f)]) (k + 2) (k + 2) := by
  obtain ⟨hk, _⟩ := List.getElem?_eq_some_iff.1 hd
  refine ⟨Nat.le_refl _, hk, by rw [List.length_append, List.length_singleton]; have := h.2.2.1; have := h.1; omega, ?_⟩
  rw [h.ended hc hd, Nat.sub_self, List.take_zero]
  cases rowsA [] (l.drop (k + 2)) with
  | none => rfl
  | some t => exact linesA_new acc t hr
end
/-- no line that is told is longer than what was passed -/
def Short (acc : List (List UInt8)) (f : Nat) : Prop := ∀ x ∈ acc, x.length ≤ f
theorem Short.nil (f : Nat) : Short [] f := fun x hx => by cases hx
theorem Short.new {acc : List (List UInt8)} {f k : Nat} {x : List UInt8} (h : Short acc f) (hx : x.length ≤ k) (hk : f ≤ k) : Short (acc ++ [x]) k := fun y hy => by
  rw [List.mem_append, List.mem_singleton] at hy
  rcases hy with hy | rfl
  · have := h y hy; omega
  · exact hx
theorem Short.more {a : List (List UInt8)} {f k : Nat} {x y : List UInt8} (h : Short (a ++ [y]) f) (hx : f + x.length ≤ k) (hk : f ≤ k) : Short (addLast (a ++ [y]) x) k := by
  rw [addLast_snoc]
  refine Short.new (f := f) (fun z hz => h z (by simp [hz])) ?_ hk
  have := h y (by simp)
  rw [List.length_append]; omega
/-- an element of a row that the call has made, read and written -/
theorem OwnT.at {B : Nat} {w : World} {g cap n : Nat} {x : List ByteArray} (h : OwnT B w (.slice (some ⟨g, 0, none⟩) n cap) x) {j : Nat} {b : ByteArray} (hb : x[j]? = some b) : w.cell? ⟨g, j, none⟩ = some (.string b) ∧ w.frozen? ⟨g, j, none⟩ = false ∧ B ≤ g ∧ g < w.heap.size ∧ n = x.length := by
  have h' : w.ownsRow B 9 1 (.slice (some ⟨g, 0, none⟩) n cap) x.length (strs x) := h
  have hn : n = x.length := by
    rcases h'.2 with ⟨e, _⟩ | ⟨_, _, _, e, _⟩
    · simp at e
    · simp at e; exact e.2.1
  subst hn
  have hlt := h.low (j := g) rfl
  exact ⟨by rw [h'.cellAt j (by have := (List.getElem?_eq_some_iff.1 hb).1; omega)]; exact strs_get hb, h'.frozenAt j, hlt.1, hlt.2, rfl⟩
theorem strs_set (x : List ByteArray) (i : Nat) (b : ByteArray) : (strs x).set i (.string b) = strs (x.set i b) := by unfold strs; rw [List.map_set]
theorem OwnT.put {B : Nat} {w : World} {g cap n : Nat} {x : List ByteArray} (h : OwnT B w (.slice (some ⟨g, 0, none⟩) n cap) x) (j : Nat) (b : ByteArray) : OwnT B (w.setCell ⟨g, j, none⟩ (.string b)) (.slice (some ⟨g, 0, none⟩) n cap) (x.set j b) := by
  have h' : w.ownsRow B 9 1 (.slice (some ⟨g, 0, none⟩) n cap) x.length (strs x) := h
  have hn : n = x.length := by
    rcases h'.2 with ⟨e, _⟩ | ⟨_, _, _, e, _⟩
    · simp at e
    · simp at e; exact e.2.1
  subst hn
  have := (h'.stored j (.string b)).1
  rw [strs_set] at this
  unfold OwnT
  rw [List.length_set]
  exact this
theorem OwnT.some {B : Nat} {w : World} {v : Value} {x : List ByteArray} (h : OwnT B w v x) (hx : x ≠ []) : ∃ g cap, v = .slice (some ⟨g, 0, none⟩) x.length cap := by
  rcases h.2 with ⟨rfl, h0⟩ | ⟨g, cap, cur, rfl, _⟩
  · exact absurd (List.eq_nil_of_length_eq_zero h0) hx
  · exact ⟨_, _, rfl⟩
end Go.Proofs.YtogjhpcjjmcjfaaGreatDoor
end
section
/- what is reached of it -/
namespace Go.Proofs.YtogjhpcjjmcjfaaGreatDoor
open Go.RowKit Tx
/-- how the document's loop stands: o ahead, the rest from k on -/
def PStand (l : List UInt8) (k : Nat) (o : List UInt8) : Prop := plain l = (plain (l.drop k)).map (o ++ ·)
theorem PStand.start (l : List UInt8) : PStand l 0 [] := by unfold PStand; rw [List.drop_zero]; cases plain l <;> rfl
theorem PStand.done {l o : List UInt8} {k : Nat} (h : PStand l k o) (hk : l.length ≤ k) : plain l = some o := by
  unfold PStand at h
  rw [List.drop_eq_nil_of_le hk, plain_nil] at h
  simpa using h
section
variable {s : ByteArray} {k : Nat} {o : List UInt8}
theorem PStand.on (h : PStand s.data.toList k o) (hk : k < s.size) (h1 : (s[k]'hk) ≠ 92) : PStand s.data.toList (k + 1) (o ++ [s[k]'hk]) := by
  unfold PStand at h ⊢
  rw [h, drop_step hk, plain_on _ h1]
  cases plain (List.drop (k + 1) s.data.toList) <;> simp
theorem PStand.last (h : PStand s.data.toList k o) (hk : k < s.size) (h1 : (s[k]'hk) = 92) (h2 : ¬ k + 1 < s.size) : plain s.data.toList = none := by
  unfold PStand at h
  rw [h, drop_step hk, h1, List.drop_eq_nil_of_le (by rw [← Lib.size_eq]; omega), plain_end]
  rfl
theorem PStand.bad (h : PStand s.data.toList k o) (hk : k < s.size) (h1 : (s[k]'hk) = 92) (h2 : k + 1 < s.size) (h3 : unb (s[k + 1]'h2) = none) : plain s.data.toList = none := by
  unfold PStand at h
  rw [h, drop_step hk, h1, drop_step h2, plain_bad _ h3]
  rfl
end
end Go.Proofs.YtogjhpcjjmcjfaaGreatDoor
end
