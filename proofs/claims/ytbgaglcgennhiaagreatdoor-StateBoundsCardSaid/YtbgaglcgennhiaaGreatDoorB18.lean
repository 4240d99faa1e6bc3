import Derived.Test.YtbgaglcgennhiaaGreatDoorB02
import Derived.Test.YtbgaglcgennhiaaGreatDoorB17
import Derived.Test.YtbgaglcgennhiaaGreatDoorB05
import Derived.Test.YtbgaglcgennhiaaGreatDoorB13
import Derived.Lib.Hide
import Derived.Test.YtbgaglcgennhiaaGreatDoorB12
import Derived.Deep.RegionLaw
section
/- what is reached of it -/
namespace Go.Proofs.YtbgaglcgennhiaaGreatDoor
open Rg
def lettersL : List R := [(65, 90), (97, 122), (192, 214), (216, 246), (248, 591), (880, 1327), (19968, 40959)]
def bannedL : List R := [(0, 31), (127, 160), (5760, 5760), (8192, 8202), (8232, 8239), (8287, 8287), (12288, 12288), (57344, 63743), (65533, 65535), (917504, 917631), (983040, 1114111)]
def rightLeftL : List R := [(1424, 1535), (1536, 1791), (64285, 64335)]
def goneL : List R := [(173, 173), (847, 847), (6150, 6150), (8203, 8205), (8288, 8288), (65024, 65039), (65279, 65279)]
end Go.Proofs.YtbgaglcgennhiaaGreatDoor
end
section
/- what is reached of it -/
namespace Go.Proofs.YtbgaglcgennhiaaGreatDoor.Pr
open Go.Proofs.YtbgaglcgennhiaaGreatDoor Rg Tx
def gone (c : Nat) : Bool := inL goneL c
def rl (c : Nat) : Bool := inL rightLeftL c
def letter (c : Nat) : Bool := inL lettersL c
/-- what a name of a user may not have beside what is banned -/
def besideBL : List R := [(32, 32), (34, 34), (38, 39), (47, 47), (58, 58), (60, 60), (62, 62), (64, 64)]
/-- what a name of a host may have beside letters -/
def besideLL : List R := [(45, 46), (48, 57)]
def capital (c : Nat) : Bool := decide (65 ≤ c) && decide (c ≤ 90) || decide (192 ≤ c) && decide (c ≤ 222) && !(c == 215)
/-- What a character becomes, in a name without capitals. -/
def small (c : Nat) : List Nat := if c = 223 then [115, 115] else if capital c then [c + 32] else [c]
def put (all : Bool) (c : Nat) : List Nat := if all then small c else [c]
def one (all : Bool) (c : Nat) : List Nat := if gone c then [] else put all c
def mapL (all : Bool) (l : List Nat) : List Nat := l.flatMap (one all)
/-- May the character not stand there? 1: a user's name, 2: a host's, 3: a resource. -/
def wrong : Nat → Nat → Bool
  | 1, c => inL bannedL c || inL besideBL c
  | 2, c => !(inL lettersL c || inL rightLeftL c || inL besideLL c)
  | _, c => inL bannedL c
/-- Is the way right? -/
def wayB (l : List Nat) : Bool := !(l.any rl) || (rl (l.headD 0) && rl (l.getLastD 0) && !(l.any letter))
/-- Are all kept? -/
def prepC (k : Nat) (l : List Nat) : List UInt8 × Nat := if l.any (wrong k) then ([], 15) else if wayB l then (flat l, 0) else ([], 16)
/-- A text as it is kept, or why not. -/
def prepL (k : Nat) (s : List UInt8) : List UInt8 × Nat := if valid s then prepC k (mapL (k != 3) (runes s)) else ([], 3)

theorem prepL_bad {k : Nat} {s : List UInt8} (h : valid s = false) : prepL k s = ([], 3) := by unfold prepL; rw [h]; rfl
theorem prepL_good {k : Nat} {s : List UInt8} (h : valid s = true) : prepL k s = prepC k (mapL (k != 3) (runes s)) := by unfold prepL; rw [h]; rfl
theorem prepC_char {k : Nat} {l : List Nat} (h : l.any (wrong k) = true) : prepC k l = ([], 15) := by unfold prepC; rw [h]; rfl
theorem prepC_ways {k : Nat} {l : List Nat} (h : l.any (wrong k) = false) (h2 : wayB l = false) : prepC k l = ([], 16) := by unfold prepC; rw [h, h2]; rfl
theorem prepC_kept {k : Nat} {l : List Nat} (h : l.any (wrong k) = false) (h2 : wayB l = true) : prepC k l = (flat l, 0) := by unfold prepC; rw [h, h2]; rfl
theorem prepL_ch {k : Nat} {s : List UInt8} {l : List Nat} (h : ch s = some l) : prepL k s = prepC k (mapL (k != 3) l) := by rw [prepL_good (valid_some h), runes_some h]

theorem gone_iff {c : Nat} : gone c = true ↔ c = 173 ∨ c = 847 ∨ c = 6150 ∨ 8203 ≤ c ∧ c ≤ 8205 ∨ c = 8288 ∨ 65024 ≤ c ∧ c ≤ 65039 ∨ c = 65279 := by
  simp [gone, inL, goneL]
  omega
theorem gone_small {c : Nat} (h : c < 173) : gone c = false := by
  cases e : gone c with
  | false => rfl
  | true => have := gone_iff.1 e; omega
theorem capital_iff {c : Nat} : capital c = true ↔ 65 ≤ c ∧ c ≤ 90 ∨ 192 ≤ c ∧ c ≤ 222 ∧ c ≠ 215 := by
  simp [capital]
  omega
/-- It stays as it is. -/
def Stays (all : Bool) (c : Nat) : Prop := one all c = [c]
theorem one_stays (all : Bool) (c : Nat) : ∀ d ∈ one all c, Stays all d := by
  intro d hd
  unfold one at hd
  cases hg : gone c with
  | true => rw [hg] at hd; simp at hd
  | false =>
    rw [hg, if_neg (by simp)] at hd
    unfold put at hd
    unfold Stays one
    cases all with
    | false =>
      simp at hd
      subst hd
      rw [hg, if_neg (by simp)]
      rfl
    | true =>
      simp only [if_true] at hd
      unfold small at hd
      have key : gone d = false ∧ d ≠ 223 ∧ capital d = false → (if gone d = true then [] else put true d) = [d] := by
        rintro ⟨h1, h2, h3⟩
        unfold put small
        rw [h1, h3, if_neg h2]
        rfl
      apply key
      by_cases h2 : c = 223
      · rw [if_pos h2] at hd
        simp at hd
        subst hd
        exact ⟨gone_small (by omega), by omega, by decide⟩
      · rw [if_neg h2] at hd
        cases hc : capital c with
        | false =>
          rw [hc] at hd
          simp at hd
          subst hd
          exact ⟨hg, h2, hc⟩
        | true =>
          rw [hc] at hd
          simp at hd
          subst hd
          have h3 := capital_iff.1 hc
          refine ⟨?_, by omega, ?_⟩
          · cases e : gone (c + 32) with
            | false => rfl
            | true => have := gone_iff.1 e; omega
          · cases e : capital (c + 32) with
            | false => rfl
            | true => have := capital_iff.1 e; omega
/-- A character that a text may have. -/
def Fine (c : Nat) : Prop := sane c ∧ okc c = true
theorem okc_of {c : Nat} (h : 32 ≤ c) (h2 : c < 65534) : okc c = true := by
  rw [okc_eq]
  simp
  omega
theorem one_fine (all : Bool) {c : Nat} (h : Fine c) : ∀ d ∈ one all c, Fine d := by
  intro d hd
  unfold one at hd
  cases hg : gone c with
  | true => rw [hg] at hd; simp at hd
  | false =>
    rw [hg, if_neg (by simp)] at hd
    unfold put at hd
    cases all with
    | false => simp at hd; subst hd; exact h
    | true =>
      simp only [if_true] at hd
      unfold small at hd
      by_cases h2 : c = 223
      · rw [if_pos h2] at hd
        simp at hd
        subst hd
        exact ⟨.inl (by omega), okc_of (by omega) (by omega)⟩
      · rw [if_neg h2] at hd
        cases hc : capital c with
        | false => rw [hc] at hd; simp at hd; subst hd; exact h
        | true =>
          rw [hc] at hd
          simp at hd
          subst hd
          have h3 := capital_iff.1 hc
          exact ⟨.inl (by omega), okc_of (by omega) (by omega)⟩
theorem ch_fine {l : List Nat} (h : ∀ c ∈ l, Fine c) : ch (flat l) = some l := by
  induction l with
  | nil => rw [flat_nil]; exact ch_nil
  | cons c l ih =>
    have hc := h c (List.mem_cons_self ..)
    rw [show c :: l = [c] ++ l from rfl, flat_append, flat_one]
    have := ch_append (b := flat l) (ch_enc hc.1 hc.2)
    rw [ih (fun d hd => h d (List.mem_cons_of_mem _ hd))] at this
    exact this
theorem mapL_stays {all : Bool} {l : List Nat} (h : ∀ c ∈ l, Stays all c) : mapL all l = l := by
  induction l with
  | nil => rfl
  | cons c l ih =>
    have hc : one all c = [c] := h c (List.mem_cons_self ..)
    have h2 := ih (fun d hd => h d (List.mem_cons_of_mem _ hd))
    unfold mapL at h2 ⊢
    rw [List.flatMap_cons, hc, h2]
    rfl
theorem mapL_each {all : Bool} {l : List Nat} {p : Nat → Prop} (h : ∀ c ∈ l, ∀ d ∈ one all c, p d) : ∀ d ∈ mapL all l, p d := by
  intro d hd
  obtain ⟨c, hc, hd⟩ := List.mem_flatMap.1 hd
  exact h c hc d hd
theorem prepC_ok {k : Nat} {l : List Nat} {a : List UInt8} (h : prepC k l = (a, 0)) : l.any (wrong k) = false ∧ wayB l = true ∧ a = flat l := by
  cases h1 : l.any (wrong k) with
  | true => rw [prepC_char h1] at h; simp at h
  | false =>
    cases h2 : wayB l with
    | false => rw [prepC_ways h1 h2] at h; simp at h
    | true => rw [prepC_kept h1 h2] at h; simp at h; exact ⟨rfl, rfl, h.symm⟩
/-- What is kept is kept as it is. -/
theorem prepL_stays {k : Nat} {s a : List UInt8} (h : prepL k s = (a, 0)) : prepL k a = (a, 0) := by
  cases hv : ch s with
  | none => rw [prepL_bad (valid_none hv)] at h; simp at h
  | some l =>
    rw [prepL_ch hv] at h
    obtain ⟨h1, h2, rfl⟩ := prepC_ok h
    have hf : ∀ c ∈ mapL (k != 3) l, Fine c := mapL_each fun c hc => one_fine _ (ch_good_all _ _ _ (Nat.le_refl _) hv c hc)
    have hs : ∀ c ∈ mapL (k != 3) l, Stays (k != 3) c := mapL_each fun c _ => one_stays _ c
    rw [prepL_ch (ch_fine hf), mapL_stays hs]
    exact h
theorem prepL_len (k : Nat) (s : List UInt8) : (prepL k s).1.length ≤ 8 * s.length := by
  cases hv : ch s with
  | none => rw [prepL_bad (valid_none hv)]; simp
  | some l =>
    rw [prepL_ch hv]
    have hl := ch_length _ _ _ (Nat.le_refl _) hv
    have h1 : ∀ x : List Nat, (flat x).length ≤ 4 * x.length := by
      intro x
      induction x with
      | nil => rw [flat_nil]; simp
      | cons c x ih =>
        rw [show c :: x = [c] ++ x from rfl, flat_append, flat_one, List.length_append, List.length_append]
        have := (enc_len (n := c)).2
        simp only [List.length_singleton]
        omega
    have h2 : ∀ x : List Nat, (mapL (k != 3) x).length ≤ 2 * x.length := by
      intro x
      induction x with
      | nil => simp [mapL]
      | cons c x ih =>
        unfold mapL at ih ⊢
        rw [List.flatMap_cons, List.length_append, List.length_cons]
        have : (one (k != 3) c).length ≤ 2 := by
          unfold one put small
          repeat' split
          all_goals simp
        omega
    unfold prepC
    have h3 := h1 (mapL (k != 3) l)
    have h4 := h2 l
    repeat' split
    all_goals (simp only [List.length_nil]; omega)
end Go.Proofs.YtbgaglcgennhiaaGreatDoor.Pr
end
section
/- what is reached of it -/
namespace Go.Proofs.YtbgaglcgennhiaaGreatDoor
open Go.RowKit Rg
/-- A question that may be asked of a character: a function that the call was handed, or has made. -/
def Asks (w : World) (v : Value) (p : Nat → Bool) : Prop := ∃ (F : FuncId) (cb : Array Value), v = .func (.func F) #[] cb ∧ (∀ args W, (callFunc F args).run Tryz.prog W = .ok (.enter F args) W) ∧
  ∀ (c : Nat) W, Below w.heap.size w W → Calls Tryz.prog F (#[.int .i64 c] ++ cb) W fun e w' => e = .returned (.bool (p c)) ∧ Below W.heap.size W w'
theorem Asks.below {w w' : World} {v : Value} {p : Nat → Bool} (h : Asks w v p) (hb : Below w.heap.size w w') : Asks w' v p := by
  obtain ⟨F, cb, rfl, eg, hp⟩ := h
  exact ⟨F, cb, rfl, eg, fun c W hW => hp c W (hb.trans (hW.mono hb.size))⟩
theorem any_hit {x : List Nat} {p : Nat → Bool} {k : Nat} (h : k < x.length) (hp : p (x.getD k 0) = true) : x.any p = true := by
  rw [List.any_eq_true]
  refine ⟨x.getD k 0, ?_, hp⟩
  rw [List.getD, List.getElem?_eq_getElem h]
  exact List.getElem_mem h
theorem any_miss {x : List Nat} {p : Nat → Bool} (h : ∀ k, k < x.length → p (x.getD k 0) = false) : x.any p = false := by
  rw [List.any_eq_false]
  intro c hc
  obtain ⟨k, hk, rfl⟩ := List.getElem_of_mem hc
  have := h k hk
  rw [List.getD, List.getElem?_eq_getElem hk] at this
  simpa using this

set_option maxHeartbeats 1000000 in
theorem indexFunc_any (v u : Value) (x : List Nat) (p : Nat → Bool) (w : World) (hv : Reads w.heap.size w v x) (hl : x.length ≤ 140737488355328) (hp : Asks w u p) :
    Calls Tryz.prog 254 #[v, u] w fun e w' => (∃ z : Int, e = .returned (.int .i64 z) ∧ decide (z ≥ 0) = x.any p) ∧ Below w.heap.size w w' := by
  obtain ⟨F, cb, rfl, eg, hp⟩ := hp
  obtain ⟨A, cap, rfl, hx⟩ := hv
  have HX := Lib.hid hx
  have HP := Lib.hid hp
  have HH := Lib.hid (fun (k : Nat) (h : k < x.length) (h2 : p (x.getD k 0) = true) => any_hit h h2)
  have HM := Lib.hid (fun (h : ∀ k, k < x.length → p (x.getD k 0) = false) => any_miss h)
  clear hx hp
  go_enter Tryz.func254, Tryz.ntmps254
  go_wp2_with fail
  go_loopw [8] (fun i wr => ∃ (k : Nat), k ≤ x.length ∧ i = .int .i64 k ∧ Hid (∀ j, j < k → p (x.getD j 0) = false) ∧ Below w.heap.size w wr) (fun i _ => x.length - (intOf i).toNat)
  case atStart => exact ⟨0, Nat.zero_le _, rfl, Lib.hid (fun j h => absurd h (Nat.not_lt_zero _)), Below.refl _ _⟩
  case round =>
    obtain ⟨k, hk, rfl, hno, hb⟩ := hrel
    have hsw := hb.size
    by_cases hlt : k < x.length
    · obtain ⟨ad, rfl, hlb, hc⟩ := HX.out (by omega)
      have c0 := hc k hlt
      rw [← hb.cell (p := ad.add k) (by rw [addBlock]; omega)] at c0
      obtain ⟨c, hcx⟩ : ∃ c, x.getD k 0 = c := ⟨_, rfl⟩
      rw [hcx] at c0
      have HC := Lib.hid hcx
      clear hc hcx
      go_wp2_with fail
      refine (HP.out c _ hb).mono ?_
      rintro e w2 ⟨rfl, b2⟩
      have hb2 : Below w.heap.size w w2 := hb.trans (b2.mono hsw)
      cases hq : p c with
      | true =>
        have hf := Lib.hid (HH.out k hlt (by rw [HC.out]; exact hq))
        clear hq b2
        go_wp2_with fail
        go_ret
        exact ⟨⟨_, rfl, by rw [hf.out]; simp⟩, hb2⟩
      | false =>
        have hno2 : Hid (∀ j, j < k + 1 → p (x.getD j 0) = false) := Lib.hid (fun j hj => by
          rcases Nat.lt_or_ge j k with h | h
          · exact hno.out j h
          · obtain rfl : j = k := by omega
            rw [HC.out]
            exact hq)
        clear hq b2
        go_wp2_with fail
        go_roundw
        case rel => exact ⟨k + 1, by omega, by go_num, hno2, hb2⟩
        case measure => simp [intOf]; omega
    · have hke : k = x.length := by omega
      have hf := Lib.hid (HM.out (fun j hj => hno.out j (by omega)))
      clear hke
      go_wp2_with fail
      go_ret
      exact ⟨⟨_, rfl, by rw [hf.out]; simp⟩, hb⟩
set_option maxHeartbeats 400000 in
theorem containsFunc_any (v u : Value) (x : List Nat) (p : Nat → Bool) (w : World) (hv : Reads w.heap.size w v x) (hl : x.length ≤ 140737488355328) (hp : Asks w u p) :
    Calls Tryz.prog 226 #[v, u] w fun e w' => e = .returned (.bool (x.any p)) ∧ Below w.heap.size w w' := by
  have HI := Lib.hid (indexFunc_any v u x p w hv hl hp)
  obtain ⟨A, cap, rfl, hx⟩ := hv
  obtain ⟨F, cb, rfl, eg, hp⟩ := hp
  obtain ⟨r, hr⟩ : ∃ r, x.any p = r := ⟨_, rfl⟩
  rw [hr] at HI ⊢
  clear hx hp hr eg
  go_enter Tryz.func226, Tryz.ntmps226
  go_wp2_with (go_at_call 254; refine HI.out.mono ?_; rintro e w1 ⟨⟨z, rfl, hz⟩, hb⟩)
  go_ret
  exact ⟨rfl, hb⟩

set_option maxHeartbeats 400000 in
theorem within1_any (bx : Nat) (v : Value) (l : List R) (c : Nat) (W : World) (hbx : W.cell? ⟨bx, 0, none⟩ = some v) (hv : ReadR W.heap.size W v l) (hl : l.length ≤ 140737488355328) :
    Calls Tryz.prog 214 (#[.int .i64 c] ++ #[.pointer (some ⟨bx, 0, none⟩)]) W fun e w' => e = .returned (.bool (inL l c)) ∧ Below W.heap.size W w' := by
  have HI := Lib.hid (in_any v l c W hv hl)
  obtain ⟨A, cap, rfl, _, hx⟩ := hv
  clear hx
  go_enter Tryz.func214, Tryz.ntmps214
  go_wp2_with fail
  refine HI.out.mono ?_
  rintro e w1 ⟨rfl, hb⟩
  go_wp2_with fail
  go_ret
  exact ⟨rfl, hb⟩
set_option maxHeartbeats 400000 in
theorem within_any (v : Value) (l : List R) (w : World) (hv : ReadR w.heap.size w v l) (hl : l.length ≤ 140737488355328) :
    Calls Tryz.prog 188 #[v] w fun e w' => ∃ u, e = .returned u ∧ Asks w' u (fun c => inL l c) ∧ Below w.heap.size w w' := by
  have hb1 : Below w.heap.size w (w.alloc (.cells #[v] 166)) := (Below.refl _ w).alloc (Nat.le_refl _) _
  have hk := Bk.new w 166 #[v]
  have eg : ∀ args w, (callFunc 214 args).run Tryz.prog w = .ok (.enter 214 args) w := Go.Proofs.enters_of Tryz.func214 (by kernel_rfl) rfl
  have HA : Hid (Asks (w.alloc (.cells #[v] 166)) (.func (.func 214) #[] #[.pointer (some ⟨w.heap.size, 0, none⟩)]) (fun c => inL l c)) := by
    refine ⟨_, _, rfl, eg, fun c W hW => ?_⟩
    have hs := hW.size
    rw [World.size_alloc] at hs
    refine within1_any w.heap.size v l c W ?_ ?_ hl
    · exact (hk.below hW (by simp)).cell 0
    · exact (((hv.below hb1).more (by simp)).below hW).more (by simp; omega)
  obtain ⟨A, cap, rfl, _, hx⟩ := hv
  clear hx eg hk
  go_enter Tryz.func188, Tryz.ntmps188
  go_wp2_with fail
  go_ret
  exact ⟨_, rfl, HA.out, hb1⟩

/-- What adds to the characters done, c by c. -/
def Adds (w : World) (v : Value) (f : Nat → List Nat) : Prop := ∃ (F : FuncId) (cb : Array Value), v = .func (.func F) #[] cb ∧ (∀ args W, (callFunc F args).run Tryz.prog W = .ok (.enter F args) W) ∧
  ∀ (B c : Nat) (d : Value) (x : List Nat) W, Below w.heap.size w W → w.heap.size ≤ B → B ≤ W.heap.size → Owned B W d x → x.length ≤ 1000000000000 → c ≤ 1114111 →
    Calls Tryz.prog F (#[d, .int .i64 c] ++ cb) W fun e w' => ∃ d', e = .returned d' ∧ Owned B w' d' (x ++ f c) ∧ Below B W w'
theorem Adds.below {w w' : World} {v : Value} {f : Nat → List Nat} (h : Adds w v f) (hb : Below w.heap.size w w') : Adds w' v f := by
  obtain ⟨F, cb, rfl, eg, hp⟩ := h
  exact ⟨F, cb, rfl, eg, fun B c d x W hW h1 h2 => hp B c d x W (hb.trans (hW.mono hb.size)) (Nat.le_trans hb.size h1) h2⟩
theorem flatMap_take {x : List Nat} {f : Nat → List Nat} {k : Nat} (h : k < x.length) : (x.take (k + 1)).flatMap f = (x.take k).flatMap f ++ f (x.getD k 0) := by
  rw [List.take_add_one, List.getElem?_eq_getElem h, List.flatMap_append, List.getD, List.getElem?_eq_getElem h, Option.toList_some, List.flatMap_singleton, Option.getD_some]
theorem flatMap_len {f : Nat → List Nat} (hf : ∀ c, (f c).length ≤ 2) : ∀ x : List Nat, (x.flatMap f).length ≤ 2 * x.length
  | [] => by simp
  | c :: x => by
    have := flatMap_len hf x
    have := hf c
    rw [List.flatMap_cons, List.length_append, List.length_cons]
    omega
theorem Owned.slice {B : Nat} {w : World} {v : Value} {x : List Nat} (h : Owned B w v x) : ∃ A cap, v = .slice A x.length cap := by
  rcases h.2 with ⟨rfl, h0⟩ | ⟨g, cap, cur, rfl, _⟩
  · exact ⟨none, 0, by rw [h0]⟩
  · exact ⟨_, _, rfl⟩
theorem Owned.weak {B B' : Nat} {w : World} {v : Value} {x : List Nat} (h : Owned B w v x) (hB : B' ≤ B) : Owned B' w v x :=
  ⟨h.1, h.2.imp id fun ⟨g, cap, cur, h1, h2, h3⟩ => ⟨g, cap, cur, h1, Nat.le_trans hB h2, h3⟩⟩

set_option maxHeartbeats 1000000 in
theorem mapped_any (v u : Value) (x : List Nat) (f : Nat → List Nat) (w : World) (hv : Reads w.heap.size w v x) (hl : x.length ≤ 100000000000) (hx0 : ∀ c ∈ x, c ≤ 1114111) (hf : ∀ c, (f c).length ≤ 2) (hp : Adds w u f) :
    Calls Tryz.prog 223 #[v, u] w fun e w' => ∃ d, e = .returned d ∧ Owned w.heap.size w' d (x.flatMap f) ∧ Below w.heap.size w w' := by
  obtain ⟨F, cb, rfl, eg, hp⟩ := hp
  obtain ⟨A, cap, rfl, hx⟩ := hv
  have HX := Lib.hid hx
  have HP := Lib.hid hp
  have HL := Lib.hid (fun k => flatMap_len hf (x.take k))
  have H0 := Lib.hid hx0
  clear hx hp hf hx0
  go_enter Tryz.func223, Tryz.ntmps223
  go_wp2_with fail
  go_loopw [5, 10] (fun vv i wr => ∃ (k : Nat) (d : Value), vv = d ∧ k ≤ x.length ∧ i = .int .i64 k ∧ Below w.heap.size w wr ∧ Hid (Owned w.heap.size wr d ((x.take k).flatMap f))) (fun _ i _ => x.length - (intOf i).toNat)
  case atStart => exact ⟨0, _, rfl, Nat.zero_le _, rfl, Below.refl _ _, Owned.nil _ _⟩
  case round =>
    obtain ⟨k, d, hd, hk, rfl, hb, ho⟩ := hrel
    have hd2 := hd.symm
    clear hd
    subst hd2
    have hsw := hb.size
    by_cases hlt : k < x.length
    · obtain ⟨ad, rfl, hlb, hc⟩ := HX.out (by omega)
      have c0 := hc k hlt
      rw [← hb.cell (p := ad.add k) (by rw [addBlock]; omega)] at c0
      obtain ⟨c, hcx⟩ : ∃ c, x.getD k 0 = c := ⟨_, rfl⟩
      have hcm : c ≤ 1114111 := H0.out c (by rw [← hcx, List.getD, List.getElem?_eq_getElem hlt]; exact List.getElem_mem hlt)
      have htk := Lib.hid (flatMap_take (f := f) hlt)
      rw [hcx] at c0 htk
      have hlen := HL.out k
      rw [List.length_take] at hlen
      have HN := Lib.hid (HP.out w.heap.size c d _ wr hb (Nat.le_refl _) hsw ho.out (by omega) hcm)
      obtain ⟨A2, c2, rfl⟩ := ho.out.slice
      obtain ⟨n2, hn2⟩ : ∃ n2, ((x.take k).flatMap f).length = n2 := ⟨_, rfl⟩
      rw [hn2] at HN
      rw [hn2]
      clear hc hcx hlen hn2 ho
      go_wp2_with fail
      refine HN.out.mono ?_
      rintro e w2 ⟨d2, rfl, o2, b2⟩
      have hb2 : Below w.heap.size w w2 := hb.trans b2
      have o3 : Hid (Owned w.heap.size w2 d2 ((x.take (k + 1)).flatMap f)) := by unfold Hid; rw [htk.out]; exact o2
      clear b2 o2 htk HN
      go_wp2_with fail
      go_roundw
      case rel => exact ⟨k + 1, _, rfl, by omega, by go_num, hb2, o3⟩
      case measure => simp [intOf]; omega
    · have hke : k = x.length := by omega
      have ho2 : Hid (Owned w.heap.size wr d (x.flatMap f)) := by
        have := ho.out
        rw [hke, List.take_length] at this
        exact this
      clear hke
      go_wp2_with fail
      go_ret
      exact ⟨_, rfl, ho2.out, hb⟩
end Go.Proofs.YtbgaglcgennhiaaGreatDoor
end
section
/- what is reached of it -/
namespace Go.Proofs.YtbgaglcgennhiaaGreatDoor
open Go.RowKit Rg
/-- A call makes such a slice. -/
def Makes (f : FuncId) (l : List R) : Prop := ∀ w : World, Calls Tryz.prog f #[] w fun e w' => ∃ v, e = .returned v ∧ OwnR w.heap.size w' v l ∧ Below w.heap.size w w'

theorem made_of {w : World} {n : Nat} {cs : Array Value} {l : List R} (hn : l.length = n) (hc : cs.toList = prs l) (hm : n ≤ maxLen) :
    OwnR w.heap.size (w.alloc (.cells cs 185)) (.slice (some ⟨w.heap.size, 0, none⟩) n n) l ∧ Below w.heap.size w (w.alloc (.cells cs 185)) := ⟨OwnR.made hn hc hm, (Below.refl _ w).alloc (Nat.le_refl _) _⟩

set_option maxHeartbeats 1000000 in
theorem letters_any : Makes 190 lettersL := by
  intro w
  go_enter Tryz.func190, Tryz.ntmps190
  go_wp2_with fail
  go_ret
  exact ⟨_, rfl, made_of (l := lettersL) rfl (by unfold lettersL; simp only [prs_cons, prs_nil]) (by decide)⟩
set_option maxHeartbeats 1000000 in
theorem banned_any : Makes 201 bannedL := by
  intro w
  go_enter Tryz.func201, Tryz.ntmps201
  go_wp2_with fail
  go_ret
  exact ⟨_, rfl, made_of (l := bannedL) rfl (by unfold bannedL; simp only [prs_cons, prs_nil]) (by decide)⟩
set_option maxHeartbeats 1000000 in
theorem rightLeft_any : Makes 191 rightLeftL := by
  intro w
  go_enter Tryz.func191, Tryz.ntmps191
  go_wp2_with fail
  go_ret
  exact ⟨_, rfl, made_of (l := rightLeftL) rfl (by unfold rightLeftL; simp only [prs_cons, prs_nil]) (by decide)⟩
set_option maxHeartbeats 1000000 in
theorem gone_any : Makes 252 goneL := by
  intro w
  go_enter Tryz.func252, Tryz.ntmps252
  go_wp2_with fail
  go_ret
  exact ⟨_, rfl, made_of (l := goneL) rfl (by unfold goneL; simp only [prs_cons, prs_nil]) (by decide)⟩

end Go.Proofs.YtbgaglcgennhiaaGreatDoor
end
