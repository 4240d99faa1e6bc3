import Derived.Test.YtfbdnaclkfmiaaaGreatDoorG45
import Derived.Test.YtfbdnaclkfmiaaaGreatDoorG35
import Derived.Deep.Cut
import Derived.Deep.DeepCutAuto
import Derived.Test.YtfbdnaclkfmiaaaGreatDoorG07
import Derived.Test.YtfbdnaclkfmiaaaGreatDoorG34
import Derived.Test.YtfbdnaclkfmiaaaGreatDoorG43
section
/- what is reached of it -/
namespace Go.Proofs.YtfbdnaclkfmiaaaGreatDoor.Ct
open Go.Proofs.YtfbdnaclkfmiaaaGreatDoor Tx Vc
theorem sepd_le (c : UInt8) (N : Nat) : ∀ xs : List (List UInt8), (∀ x ∈ xs, x.length ≤ N) → (sepd c xs).length ≤ xs.length * (N + 1)
  | [], _ => Nat.zero_le _
  | [x], h => by
    have := h x List.mem_cons_self
    show x.length ≤ 1 * (N + 1)
    omega
  | x :: y :: r, h => by
    have h1 := h x List.mem_cons_self
    have h2 := sepd_le c N (y :: r) (fun z hz => h z (List.mem_cons_of_mem _ hz))
    show (x ++ c :: sepd c (y :: r)).length ≤ ((y :: r).length + 1) * (N + 1)
    rw [List.length_append, List.length_cons, Nat.succ_mul]
    omega
end Go.Proofs.YtfbdnaclkfmiaaaGreatDoor.Ct
namespace Go.Proofs.YtfbdnaclkfmiaaaGreatDoor
open Go.RowKit Vc Ct Tx
end Go.Proofs.YtfbdnaclkfmiaaaGreatDoor
end
section
/- what is reached of it -/
namespace Go.Proofs.YtfbdnaclkfmiaaaGreatDoor
open Go.RowKit Vc Ct
theorem cbts_app (a b : List UInt8) : bts a ++ bts b = bts (a ++ b) := by
  apply ByteArray.ext
  rw [ByteArray.data_append]
  exact (List.append_toArray a b).symm ▸ rfl
theorem CRowA.none (w : World) : RowA w (.slice none 0 0) [] := ⟨Option.none, 0, rfl, fun h => absurd h (Nat.not_lt_zero _), Nat.le_refl _, Nat.zero_le _, fun _ => rfl⟩
end Go.Proofs.YtfbdnaclkfmiaaaGreatDoor
end
section
/- what is reached of it -/
namespace Go.Proofs.YtfbdnaclkfmiaaaGreatDoor
open Rg Tx
namespace Jd
def nums (l : List UInt8) : List Nat := l.map (·.toNat)
def lowB (l : List UInt8) : Bool := l.all fun b => decide (32 ≤ b.toNat) && decide (b.toNat < 128)
theorem flat_nums : ∀ {l : List UInt8}, (∀ b ∈ l, b.toNat < 128) → flat (nums l) = l
  | [], _ => flat_nil
  | b :: l, h => by
    have hb := h b (List.mem_cons_self ..)
    have ih := flat_nums (l := l) (fun c hc => h c (List.mem_cons_of_mem _ hc))
    unfold nums at ih ⊢
    rw [List.map_cons, flat_cons, ih, enc_sane (.inl (by omega))]
    unfold encB
    rw [if_pos hb]
    simp
theorem lowB_at {l : List UInt8} (h : lowB l = true) : ∀ b ∈ l, 32 ≤ b.toNat ∧ b.toNat < 128 := by
  intro b hb
  have := List.all_eq_true.1 h b hb
  simpa using this
theorem low_ch {l : List UInt8} (h : lowB l = true) : ch l = some (nums l) := by
  have h1 := lowB_at h
  have h2 := Pr.ch_fine (l := nums l) (fun c hc => by
    obtain ⟨b, hb, rfl⟩ := List.mem_map.1 hc
    have := h1 b hb
    exact ⟨.inl (by omega), Pr.okc_of (by omega) (by omega)⟩)
  rw [flat_nums (fun b hb => (h1 b hb).2)] at h2
  exact h2
/-- a text of such signs, as it is kept -/
theorem low_keep {k : Nat} {l r : List UInt8} (h : lowB l = true) (hm : Pr.mapL (k != 3) (nums l) = nums r) (hr : lowB r = true) (hw : (nums r).any (Pr.wrong k) = false) (hy : Pr.wayB (nums r) = true) : Pr.prepL k l = (r, 0) := by
  rw [Pr.prepL_ch (low_ch h), hm, Pr.prepC_kept hw hy, flat_nums (fun b hb => (lowB_at hr b hb).2)]
/-- signs that stay, and may stand -/
def fitB (k : Nat) (b : UInt8) : Bool := decide (32 ≤ b.toNat) && decide (b.toNat < 128) && (Pr.one (k != 3) b.toNat == [b.toNat]) && !(Pr.wrong k b.toNat) && !(Pr.rl b.toNat)
theorem fit_at {k : Nat} {b : UInt8} (h : fitB k b = true) : 32 ≤ b.toNat ∧ b.toNat < 128 ∧ Pr.one (k != 3) b.toNat = [b.toNat] ∧ Pr.wrong k b.toNat = false ∧ Pr.rl b.toNat = false := by
  unfold fitB at h
  simp only [Bool.and_eq_true, decide_eq_true_eq, beq_iff_eq, Bool.not_eq_true'] at h
  exact ⟨h.1.1.1.1, h.1.1.1.2, h.1.1.2, h.1.2, h.2⟩
theorem fit_prep {k : Nat} {l : List UInt8} (h : ∀ b ∈ l, fitB k b = true) : Pr.prepL k l = (l, 0) := by
  refine low_keep (r := l) ?_ ?_ ?_ ?_ ?_
  · exact List.all_eq_true.2 fun b hb => by have := fit_at (h b hb); simp; omega
  · refine Pr.mapL_stays fun c hc => ?_
    obtain ⟨b, hb, rfl⟩ := List.mem_map.1 hc
    exact (fit_at (h b hb)).2.2.1
  · exact List.all_eq_true.2 fun b hb => by have := fit_at (h b hb); simp; omega
  · refine List.any_eq_false.2 fun c hc => ?_
    obtain ⟨b, hb, rfl⟩ := List.mem_map.1 hc
    rw [(fit_at (h b hb)).2.2.2.1]
    simp
  · have : (nums l).any Pr.rl = false := List.any_eq_false.2 fun c hc => by
      obtain ⟨b, hb, rfl⟩ := List.mem_map.1 hc
      rw [(fit_at (h b hb)).2.2.2.2]
      simp
    unfold Pr.wayB
    rw [this]
    rfl
theorem fit_mem {k : Nat} {l m : List UInt8} (hm : m.all (fitB k) = true) (h : ∀ b ∈ l, b ∈ m) : ∀ b ∈ l, fitB k b = true := fun b hb => List.all_eq_true.1 hm b (h b hb)

theorem parse_eq {s : List UInt8} {c d : List UInt8 × List UInt8 × Bool} (hc : cutB 47 s = c) (hd : halfL c.1 = d) : parseL s = three (domL d.2.1) (part d.2.2 1 d.1) (part c.2.2 3 c.2.1) := by
  subst hc
  subst hd
  rfl
theorem dom_eval {s h d : List UInt8} (h1 : Pr.prepL 2 s = (h, 0)) (h2 : trimD h = d) : domL s = pieced (sizedL 100 (d, 0)) := by
  unfold domL hostL
  rw [h1]
  simp only
  rw [h2]
theorem node_a : part true 1 [97] = ([97], 0) := by
  show sizedL 64 (Pr.prepL 1 [97]) = _
  rw [fit_prep (by decide)]
  decide
theorem node_A : part true 1 [65] = ([97], 0) := by
  show sizedL 64 (Pr.prepL 1 [65]) = _
  rw [low_keep (l := [65]) (r := [97]) (by decide) (by decide) (by decide) (by decide) (by decide)]
  decide
def six : List UInt8 := [97, 98, 99, 55, 56, 57]
/-- a word: "x", and at most twenty of six signs -/
structure Word (l : List UInt8) : Prop where
  len : l.length ≤ 21
  ne : ∃ t, l = 120 :: t
  mem : ∀ b ∈ l, b ∈ 120 :: six
theorem Word.fit {l : List UInt8} (h : Word l) (k : Nat) (hk : k = 1 ∨ k = 2 ∨ k = 3) : Pr.prepL k l = (l, 0) := by
  refine fit_prep (fit_mem (m := 120 :: six) ?_ h.mem)
  rcases hk with rfl | rfl | rfl <;> decide
theorem Word.free {l : List UInt8} (h : Word l) {c : UInt8} (hc : c ∉ (120 :: six : List UInt8)) : c ∉ l := fun hm => hc (h.mem c hm)
theorem Word.nn {l : List UInt8} (h : Word l) : l ≠ [] := by obtain ⟨t, rfl⟩ := h.ne; simp
theorem Word.pieces {l : List UInt8} (h : Word l) : (pcs 46 l).any badB = false := by
  rw [pcs_none (h.free (by decide))]
  have hl : l.getLastD 0 ∈ l := by
    rw [List.getLastD_eq_getLast?]
    rcases List.eq_nil_or_concat l with rfl | ⟨t, x, rfl⟩
    · exact absurd rfl h.nn
    · simp
  have h45 : (45 : UInt8) ∉ l := h.free (by decide)
  have h1 : (l.getLastD 0 == 45) = false := by
    cases e : (l.getLastD 0 == 45) with
    | false => rfl
    | true => rw [beq_iff_eq] at e; rw [e] at hl; exact absurd hl h45
  obtain ⟨t, rfl⟩ := h.ne
  simp only [List.any_cons, List.any_nil, Bool.or_false]
  unfold badB
  rw [h1]
  rfl
theorem Word.dom {l : List UInt8} (h : Word l) : domL l = (l, 0) := dom_of (h.fit 2 (.inr (.inl rfl))) h.nn (by have := h.len; omega) h.pieces
/-- what may stand behind a word, in a resource -/
def tails : List (List UInt8) := [[], [47], [64], [47, 64, 32, 47]]
theorem Word.res {l t : List UInt8} (h : Word l) (ht : t ∈ tails) : Pr.prepL 3 (l ++ t) = (l ++ t, 0) ∧ (l ++ t).length ≤ 64 ∧ l ++ t ≠ [] := by
  refine ⟨fit_prep (fit_mem (m := 47 :: 64 :: 32 :: 120 :: six) (by decide) fun b hb => ?_), ?_, fun e => h.nn (List.append_eq_nil_iff.1 e).1⟩
  · rcases List.mem_append.1 hb with hb | hb
    · exact List.mem_cons_of_mem _ (List.mem_cons_of_mem _ (List.mem_cons_of_mem _ (h.mem b hb)))
    · exact (show ∀ t ∈ tails, ∀ b ∈ t, b ∈ (47 :: 64 :: 32 :: 120 :: six : List UInt8) by decide) t ht b hb
  · have := h.len
    unfold tails at ht
    simp only [List.mem_cons, List.not_mem_nil, or_false] at ht
    rcases ht with rfl | rfl | rfl | rfl <;> simp <;> omega
theorem Word.right {l d r t : List UInt8} (hl : Word l) (hd : Word d) (hr : Word r) (ht : t ∈ tails) : Right (l, d, r ++ t) :=
  ⟨hd.dom, hd.nn, .inr ⟨hl.fit 1 (.inl rfl), by have := hl.len; show l.length ≤ 64; omega⟩, .inr ⟨(hr.res ht).1, (hr.res ht).2.1⟩⟩
end Jd
end Go.Proofs.YtfbdnaclkfmiaaaGreatDoor
end
section
/- what is reached of it -/
namespace Go.Proofs.YtfbdnaclkfmiaaaGreatDoor.Ct
open Go.Proofs.YtfbdnaclkfmiaaaGreatDoor Tx Vc
theorem dom_H : Jd.domL [72] = ([104], 0) := (Jd.dom_eval (Jd.low_keep (l := [72]) (r := [104]) (by decide) (by decide) (by decide) (by decide) (by decide)) (show Jd.trimD _ = [104] by decide)).trans (by decide)
theorem dom_h : Jd.domL [104] = ([104], 0) := Jd.dom_of (Jd.fit_prep (by decide)) (by decide) (by decide) (by decide)
/-- "A@H" -/
theorem bare_AH : Jd.bareL [65, 64, 72] = ([97, 64, 104], 0) := by
  have h : Jd.parseL [65, 64, 72] = (([97], [104], []), 0) := by
    rw [Jd.parse_eq (s := [65, 64, 72]) (c := ([65, 64, 72], [], false)) (d := ([65], [72], true)) (by decide) (by decide)]
    simp only
    rw [dom_H, Jd.node_A]
    rfl
  rw [Jd.bare_ok h rfl]
  rfl
/-- "a@h" -/
theorem bare_ah : Jd.bareL [97, 64, 104] = ([97, 64, 104], 0) := by
  have h : Jd.parseL [97, 64, 104] = (([97], [104], []), 0) := by
    rw [Jd.parse_eq (s := [97, 64, 104]) (c := ([97, 64, 104], [], false)) (d := ([97], [104], true)) (by decide) (by decide)]
    simp only
    rw [dom_h, Jd.node_a]
    rfl
  rw [Jd.bare_ok h rfl]
  rfl
end Go.Proofs.YtfbdnaclkfmiaaaGreatDoor.Ct
end
section
/- what is reached of it -/
namespace Go.Proofs.YtfbdnaclkfmiaaaGreatDoor.Ct
open Go.Proofs.YtfbdnaclkfmiaaaGreatDoor Tx Vc
/-- an address, near to a text -/
def nearJ (s : List UInt8) (k : Nat) : List UInt8 := if (Jd.bareL s).2 = 0 then (Jd.bareL s).1 else ([[97, 64, 104], [98, 64, 104], [99, 64, 104], [100, 64, 120, 46, 121], [104]] : List (List UInt8)).getD (k % 5) []
theorem node_one {b : UInt8} (h : Jd.fitB 1 b = true) : Jd.part true 1 [b] = ([b], 0) := by
  show Jd.sizedL 64 (Pr.prepL 1 [b]) = _
  rw [Jd.fit_prep (fun x hx => by rw [List.mem_singleton] at hx; rw [hx]; exact h)]
  simp [Jd.sizedL]
theorem dom_xy : Jd.domL [120, 46, 121] = ([120, 46, 121], 0) := Jd.dom_of (Jd.fit_prep (by decide)) (by decide) (by decide) (by decide)
theorem near_key (s : List UInt8) (k : Nat) : Jd.bareL (nearJ s k) = (nearJ s k, 0) := by
  unfold nearJ
  by_cases h : (Jd.bareL s).2 = 0
  · rw [if_pos h]
    unfold Jd.bareL at h
    by_cases hp : (Jd.parseL s).2 = 0
    · rw [if_pos hp] at h
      by_cases hr : (Jd.parseL s).1.2.2 = []
      · have hpe : Jd.parseL s = ((Jd.parseL s).1, 0) := Prod.ext rfl hp
        rw [Jd.bare_ok hpe hr]
        exact Jd.bare_back hpe hr
      · rw [if_neg hr] at h
        exact absurd h (by simp)
    · rw [if_neg hp] at h
      exact absurd h hp
  · rw [if_neg h]
    have hk : k % 5 = 0 ∨ k % 5 = 1 ∨ k % 5 = 2 ∨ k % 5 = 3 ∨ k % 5 = 4 := by omega
    have one : ∀ b : UInt8, Jd.fitB 1 b = true → Jd.cutB 47 [b, 64, 104] = ([b, 64, 104], [], false) → Jd.halfL [b, 64, 104] = ([b], [104], true) → Jd.bareL [b, 64, 104] = ([b, 64, 104], 0) := fun b h1 h2 h3 => by
      have h : Jd.parseL [b, 64, 104] = (([b], [104], []), 0) := by
        rw [Jd.parse_eq (s := [b, 64, 104]) (c := ([b, 64, 104], [], false)) (d := ([b], [104], true)) h2 h3]
        simp only
        rw [dom_h, node_one h1]
        rfl
      rw [Jd.bare_ok h rfl]
      rfl
    rcases hk with e | e | e | e | e
    · rw [e]; exact bare_ah
    · rw [e]; exact one 98 (by decide) (by decide) (by decide)
    · rw [e]; exact one 99 (by decide) (by decide) (by decide)
    · rw [e]
      show Jd.bareL [100, 64, 120, 46, 121] = ([100, 64, 120, 46, 121], 0)
      have h : Jd.parseL [100, 64, 120, 46, 121] = (([100], [120, 46, 121], []), 0) := by
        rw [Jd.parse_eq (s := [100, 64, 120, 46, 121]) (c := ([100, 64, 120, 46, 121], [], false)) (d := ([100], [120, 46, 121], true)) (by decide) (by decide)]
        simp only
        rw [dom_xy, node_one (by decide)]
        rfl
      rw [Jd.bare_ok h rfl]
      rfl
    · rw [e]
      show Jd.bareL [104] = ([104], 0)
      have h : Jd.parseL [104] = (([], [104], []), 0) := by
        rw [Jd.parse_eq (s := [104]) (c := ([104], [], false)) (d := ([], [104], false)) (by decide) (by decide)]
        simp only
        rw [dom_h]
        rfl
      rw [Jd.bare_ok h rfl]
      rfl
theorem near_bare (s : List UInt8) (k : Nat) : bareB (nearJ s k) = true := by
  unfold bareB
  rw [near_key, decide_eq_true (rfl : (nearJ s k, 0) = (nearJ s k, 0)), Bool.or_true]
theorem note_line {t : List UInt8} (h : line t 200 = true) : noteB t = true := by
  obtain ⟨cs, h1, h2, h3⟩ := line_chars h
  unfold noteB
  rw [line_valid h, runes_some h1]
  rw [line_some h1] at h
  have hl : (cs.length : Int) ≤ 200 := of_decide_eq_true (Bool.and_eq_true_iff.1 h).2
  have hb : t.all (fun b => b != 13) = true := List.all_eq_true.2 fun b hb => by
    have h13 := line_no13 (t := t) (n := 200) (by rw [line_some h1]; exact h)
    have : b ≠ 13 := fun e => h13 (e ▸ hb)
    simpa using this
  rw [hb, decide_eq_true (show cs.length ≤ 500 by omega)]
  rfl
/-- what is near to a contact -/
structure Near (d : Con) : Prop where
  name : line d.name 100 = true
  some_ : d.name ≠ []
  family : line d.family 50 = true
  given : line d.given 50 = true
  nick : line d.nick 50 = true
  jid : d.jid = [] ∨ ∃ s k, d.jid = nearJ s k
  email : line d.email 50 = true
  tel : line d.tel 50 = true
  note : line d.note 200 = true
  uid : line d.uid 50 = true
  groups : ∃ l, d.groups = groupsL l ∧ l.length ≤ 4 ∧ ∀ g ∈ l, line g 30 = true
  other : d.other = []
theorem Near.right {d : Con} (h : Near d) : rightC d = true := by
  obtain ⟨l, hg, hl, hx⟩ := h.groups
  refine right_of h.some_ ?_ (note_line h.note) ?_ ?_ (by rw [h.other]; exact none_ok)
  · unfold textsB
    rw [h.name, line_more h.family (by decide), line_more h.given (by decide), line_more h.nick (by decide), line_more h.email (by decide), line_more h.tel (by decide), line_more h.uid (by decide)]
    rfl
  · rcases h.jid with e | ⟨s, k, e⟩
    · rw [e]; rfl
    · rw [e]; exact near_bare s k
  · rw [hg]
    exact groups_ok (by omega) hx (by decide)
end Go.Proofs.YtfbdnaclkfmiaaaGreatDoor.Ct
end
section
/- what is reached of it -/
namespace Go.Proofs.YtfbdnaclkfmiaaaGreatDoor
open Go.RowKit Vc Ct Tx
theorem text_lenN (j : Jd.J) : (Jd.textL j).length ≤ j.1.length + j.2.1.length + j.2.2.length + 2 := by
  unfold Jd.textL
  rw [List.length_append]
  split <;> split <;> simp <;> omega
theorem near_lenN (s : List UInt8) (k : Nat) : (nearJ s k).length ≤ 300 := by
  have h := near_key s k
  unfold Jd.bareL at h
  by_cases hp : (Jd.parseL (nearJ s k)).2 = 0
  · rw [if_pos hp] at h
    by_cases hr : (Jd.parseL (nearJ s k)).1.2.2 = []
    · rw [if_pos hr] at h
      have e := congrArg Prod.fst h
      simp only at e
      have hl := Jd.parse_len (show Jd.parseL (nearJ s k) = ((Jd.parseL (nearJ s k)).1, 0) from Prod.ext rfl hp)
      have ht := text_lenN (Jd.parseL (nearJ s k)).1
      rw [e] at ht
      omega
    · rw [if_neg hr] at h
      exact absurd (congrArg Prod.snd h) (by simp)
  · rw [if_neg hp] at h
    exact absurd (congrArg Prod.snd h) hp
theorem Ct.Near.low {d : Con} (h : Near d) : Low 1000 d := by
  obtain ⟨l, hg, hl, hx⟩ := h.groups
  have n0 := Ct.line_len (n := 100) h.name
  have n1 := Ct.line_len (n := 50) h.family
  have n2 := Ct.line_len (n := 50) h.given
  have n3 := Ct.line_len (n := 50) h.nick
  have n5 := Ct.line_len (n := 50) h.email
  have n6 := Ct.line_len (n := 50) h.tel
  have n7 := Ct.line_len (n := 200) h.note
  have n8 := Ct.line_len (n := 50) h.uid
  have n4 : d.jid.length ≤ 300 := by
    rcases h.jid with e | ⟨s, k, e⟩
    · rw [e]; exact Nat.zero_le _
    · rw [e]; exact near_lenN s k
  refine ⟨fun x hx => ?_, by rw [hg]; have := groups_len l; omega, fun g hm => ?_⟩
  · simp only [List.mem_cons, List.not_mem_nil, or_false] at hx
    rcases hx with e | e | e | e | e | e | e | e | e <;> rw [e] <;> omega
  · rw [hg] at hm
    have := Ct.line_len (n := 30) (hx g (((groups_rising l).2 g).1 hm).1)
    omega
theorem Ct.Low.more {N M : Nat} {c : Con} (h : Low N c) (hM : N ≤ M) : Low M c := ⟨fun x hx => Nat.le_trans (h.1 x hx) hM, Nat.le_trans h.2.1 hM, fun g hg => Nat.le_trans (h.2.2 g hg) hM⟩
theorem oneByteN {P : Program} {tb ts te : TypeId} (hb : P.underlying tb = some (.slice te)) (he : P.underlying te = some (.int .u8)) (hs : P.underlying ts = some .string) (x : Int) (w : World) :
    (convert tb ts (.slice (some ⟨w.heap.size, 0, none⟩) 1 1)).run P (w.alloc (.cells #[.int .u8 x] te)) = .ok (.string ⟨#[UInt8.ofNat x.toNat]⟩) (w.alloc (.cells #[.int .u8 x] te)) := by
  rw [run_convert_bytes_string _ tb ts te _ _ _ hb he hs]
  have := run_bytesToString (P := P) (w.alloc (.cells #[.int .u8 x] te)) ⟨w.heap.size, 0, none⟩ 1 1 [x] (by
    have h := run_loadCells_list (P := P) (w := w.alloc (.cells #[.int .u8 x] te)) ⟨w.heap.size, 0, none⟩ [.int .u8 x] (by
      intro j v hj
      match j, hj with
      | 0, hj => simp at hj; subst hj; simp [Addr.add])
    exact h)
  rw [this]
  rfl
end Go.Proofs.YtfbdnaclkfmiaaaGreatDoor
end
section
/- what is reached of it -/
namespace Go.Proofs.YtfbdnaclkfmiaaaGreatDoor
open Go.RowKit Vc Ct
def awL : List Pr := [([], nFN, [], [97, 92, 44, 98]), ([], nIMPP, [], [120, 109, 112, 112, 58, 65, 64, 72]), ([], [88], [], [121])]
def awC : Con := { noneC with name := [97, 44, 98], jid := [97, 64, 104], other := [([], [88], [], [121])] }
theorem aw_right : rightC awC = true := by
  have hb : bareB awC.jid = true := by
    show bareB [97, 64, 104] = true
    unfold bareB
    rw [bare_ah]
    rfl
  have h1 : textsB awC = true := by decide +kernel
  have h2 : noteB awC.note = true := by decide +kernel
  have h3 : rightG awC.groups = true := by decide +kernel
  have h4 : (writeV [awC.other]).2 = 0 := by decide +kernel
  unfold rightC
  rw [h1, h2, hb, h3, h4]
  rfl
theorem aw_of : ofL awL = (awC, 0) := by
  have h1 : runK (noneC, []) [([], nFN, [], [97, 92, 44, 98])] = (0, ({ noneC with name := [97, 44, 98] }, [] ++ [nFN])) := by
    refine run_known (p := ([], nFN, [], [97, 92, 44, 98])) (by decide) ?_
    unfold takeC
    rw [if_neg (show nFN ≠ nN by decide), if_neg (show nFN ≠ nCAT by decide), show Tx.plain [97, 92, 44, 98] = some [97, 44, 98] by decide]
    rfl
  have h2 : runK ({ noneC with name := [97, 44, 98] }, [] ++ [nFN]) [([], nIMPP, [], [120, 109, 112, 112, 58, 65, 64, 72])] = (0, ({ noneC with name := [97, 44, 98], jid := [97, 64, 104] }, [] ++ [nFN] ++ [nIMPP])) := by
    refine run_known (p := ([], nIMPP, [], [120, 109, 112, 112, 58, 65, 64, 72])) (by decide) ?_
    unfold takeC
    rw [if_neg (show nIMPP ≠ nN by decide), if_neg (show nIMPP ≠ nCAT by decide), show Tx.plain [120, 109, 112, 112, 58, 65, 64, 72] = some [120, 109, 112, 112, 58, 65, 64, 72] by decide]
    simp only
    rw [if_pos trivial, show List.drop 5 [120, 109, 112, 112, 58, 65, 64, 72] = ([65, 64, 72] : List UInt8) from rfl, bare_AH]
    rfl
  have h3 : runK ({ noneC with name := [97, 44, 98], jid := [97, 64, 104] }, [] ++ [nFN] ++ [nIMPP]) [([], [88], [], [121])] = (0, (awC, [] ++ [nFN] ++ [nIMPP])) := run_other _ _ _ (fun p hp => by rw [List.mem_singleton] at hp; subst hp; decide)
  have h : runK (noneC, []) awL = (0, (awC, [] ++ [nFN] ++ [nIMPP])) := by
    show runK (noneC, []) ([([], nFN, [], [97, 92, 44, 98])] ++ ([([], nIMPP, [], [120, 109, 112, 112, 58, 65, 64, 72])] ++ [([], [88], [], [121])])) = _
    rw [run_append _ _ _ _ h1, run_append _ _ _ _ h2, h3]
  unfold ofL
  rw [h]
  simp only
  rw [if_pos trivial, aw_right, if_pos rfl]
def litC : List (List UInt8 × List UInt8) → List Value
  | [] => []
  | x :: t => .string ⟨#[]⟩ :: .string (bts x.1) :: .slice none 0 0 :: .string (bts x.2) :: litC t
def litP (l : List (List UInt8 × List UInt8)) : List Pr := l.map fun x => ([], x.1, [], x.2)
theorem litC_get : ∀ {l : List (List UInt8 × List UInt8)} {i j : Nat} {x : List UInt8 × List UInt8}, l[i]? = some x → j < 4 → (litC l)[i * 4 + j]? = ([.string ⟨#[]⟩, .string (bts x.1), .slice none 0 0, .string (bts x.2)] : List Value)[j]?
  | [], i, j, x, h, _ => by simp at h
  | y :: t, 0, j, x, h, hj => by
    obtain rfl : y = x := by simpa using h
    match j, hj with
    | 0, _ => rfl
    | 1, _ => rfl
    | 2, _ => rfl
    | 3, _ => rfl
  | y :: t, i + 1, j, x, h, hj => by
    have ih := litC_get (l := t) (i := i) (j := j) (x := x) (by simpa using h) hj
    rw [← ih, show (i + 1) * 4 + j = i * 4 + j + 4 by omega]
    rfl
theorem seen_lit {w : World} {g : Nat} {l : List (List UInt8 × List UInt8)} (h : Bk w g 41 (litC l).toArray) (c : Nat) : SeenP w (.slice (some ⟨g, 0, none⟩) l.length c) (litP l) := by
  have hl : (litP l).length = l.length := List.length_map ..
  refine ⟨some ⟨g, 0, none⟩, c, by rw [hl], fun h0 => ⟨⟨g, 0, none⟩, rfl, h.lt, fun i x hi => ⟨.slice none 0 0, ?_, ?_⟩⟩⟩
  · unfold litP at hi
    rw [List.getElem?_map] at hi
    obtain ⟨y, hy, rfl⟩ := Option.map_eq_some_iff.1 hi
    have hc : ∀ j, j < 4 → w.cell? ⟨g, i * 4 + j, none⟩ = ([.string ⟨#[]⟩, .string (bts y.1), .slice none 0 0, .string (bts y.2)] : List Value)[j]? := fun j hj => by
      rw [h.cell, List.getElem?_toArray]
      exact litC_get hy hj
    rw [add_at, Nat.zero_add]
    exact ⟨hc 0 (by decide), hc 1 (by decide), hc 2 (by decide), hc 3 (by decide)⟩
  · unfold litP at hi
    rw [List.getElem?_map] at hi
    obtain ⟨y, hy, rfl⟩ := Option.map_eq_some_iff.1 hi
    exact ⟨none, 0, rfl, fun h => absurd h (Nat.not_lt_zero _)⟩
/-- Of, at properties that the call laid out: the contact in its own cells. -/
theorem of_lit {w W1 : World} {l : List (List UInt8 × List UInt8)} (hO : OkwV w) (hW : W1 = w.alloc (.cells (litC l).toArray 41)) (c : Nat) (hc : costC (litP l) ≤ 90000) {d : Con} {n : Nat} (hd : ofL (litP l) = (d, n)) :
    Calls Tryz.prog 11 #[.slice (some ⟨w.heap.size, 0, none⟩) l.length c] W1 fun e w' => (∃ g o, e = .returned (.tuple #[agC d g o, .int .i64 n]) ∧ ReadT w'.heap.size w' g (sts d.groups) ∧ SeenP w' o d.other) ∧ Below w.heap.size w w' := by
  subst hW
  have b1 : Below w.heap.size w (w.alloc (.cells (litC l).toArray 41)) := (Below.refl _ _).alloc (Nat.le_refl _) _
  have h := of_cany (.slice (some ⟨w.heap.size, 0, none⟩) l.length c) (litP l) (w.alloc (.cells (litC l).toArray 41)) (hO.below b1) (seen_lit (Bk.new _ _ _) c) hc
  refine h.mono fun e w' ⟨⟨cv, h1, h2⟩, h3⟩ => ⟨?_, b1.trans (h3.mono b1.size)⟩
  rw [of_way, hd] at h1 h2
  obtain ⟨g, o, rfl, h4, h5⟩ := h2
  exact ⟨g, o, h1, h4, h5⟩
set_option maxHeartbeats 4000000 in
set_option maxRecDepth 100000 in
theorem cawake_any (W : World) (hO : OkwV W) : Calls Tryz.prog 10 #[] W fun e w' => e = .returned (.bool true) ∧ Below W.heap.size W w' := by
  obtain ⟨W1, hW1⟩ : ∃ W1, W.alloc (.cells #[.string ⟨#[]⟩, .string ⟨#[70, 78]⟩, .slice none 0 0, .string ⟨#[97, 92, 44, 98]⟩, .string ⟨#[]⟩, .string ⟨#[73, 77, 80, 80]⟩, .slice none 0 0, .string ⟨#[120, 109, 112, 112, 58, 65, 64, 72]⟩, .string ⟨#[]⟩, .string ⟨#[88]⟩, .slice none 0 0, .string ⟨#[121]⟩] 41) = W1 := ⟨_, rfl⟩
  have HOF := Lib.hid (of_lit (l := [(nFN, [97, 92, 44, 98]), (nIMPP, [120, 109, 112, 112, 58, 65, 64, 72]), ([88], [121])]) hO hW1.symm 3 (by decide) aw_of)
  have HR := Lib.hid (fun gv o w (h : Below W.heap.size W w) (hg : ReadT w.heap.size w gv (sts awC.groups)) (ho : ReadP w o awC.other) => right_cany awC gv o w (hO.below h) hg ho ⟨by decide, ⟨by decide, by decide⟩, by decide⟩)
  rw [aw_right] at HR
  obtain ⟨P, hP⟩ : ∃ P, W.heap.size = P := ⟨_, rfl⟩
  rw [hP] at HOF
  clear hO
  go_enter Tryz.func10, Tryz.ntmps10
  go_wp2_with fail
  refine HOF.out.mono ?_
  rintro e w1 ⟨⟨g, o, rfl, hg, ho⟩, b1⟩
  have HG := Lib.hid hg
  have HO := Lib.hid ho
  obtain ⟨GA, gn, gcap, rfl⟩ : ∃ A n cap, g = .slice A n cap := by obtain ⟨A, cap, e, _⟩ := hg; exact ⟨A, _, cap, e⟩
  obtain ⟨OA, ocap, rfl⟩ : ∃ A cap, o = .slice A 1 cap := by obtain ⟨A, cap, e, _⟩ := ho; exact ⟨A, cap, e⟩
  have hag : agC awC (.slice GA gn gcap) (.slice OA 1 ocap) = .agg #[.string ⟨#[97, 44, 98]⟩, .string ⟨#[]⟩, .string ⟨#[]⟩, .string ⟨#[]⟩, .string ⟨#[97, 64, 104]⟩, .string ⟨#[]⟩, .string ⟨#[]⟩, .string ⟨#[]⟩, .string ⟨#[]⟩, .slice GA gn gcap, .slice OA 1 ocap] := rfl
  rw [hag]
  have HAG := Lib.hid hag
  have B1 : Hid (Below W.heap.size W w1) := by rw [hP]; exact b1
  clear hg ho hag b1
  go_upto_region 2 with fail
  obtain ⟨w2, hw2⟩ : ∃ w2, w1.alloc (.cells #[.string ⟨#[97, 44, 98]⟩, .string ⟨#[]⟩, .string ⟨#[]⟩, .string ⟨#[]⟩, .string ⟨#[97, 64, 104]⟩, .string ⟨#[]⟩, .string ⟨#[]⟩, .string ⟨#[]⟩, .string ⟨#[]⟩, .slice GA gn gcap, .slice OA 1 ocap] 25) = w2 := ⟨_, rfl⟩
  have b2 : Below w1.heap.size w1 w2 := by rw [← hw2]; exact (Below.refl _ _).alloc (Nat.le_refl _) _
  have B2 : Hid (Below W.heap.size W w2) := B1.out.trans (b2.mono B1.out.size)
  obtain ⟨Q, hQ⟩ : ∃ Q, w1.heap.size = Q := ⟨_, rfl⟩
  have k2 : Bk w2 Q 25 #[.string ⟨#[97, 44, 98]⟩, .string ⟨#[]⟩, .string ⟨#[]⟩, .string ⟨#[]⟩, .string ⟨#[97, 64, 104]⟩, .string ⟨#[]⟩, .string ⟨#[]⟩, .string ⟨#[]⟩, .string ⟨#[]⟩, .slice GA gn gcap, .slice OA 1 ocap] := by rw [← hw2, ← hQ]; exact Bk.new _ _ _
  have HRR := HR.out _ _ w2 B2.out (HG.out.upon b2) (HO.out.below b2).reads
  rw [HAG.out] at HRR
  have HRX := Lib.hid HRR
  have q0 := k2.cell 0
  have q1 := k2.cell 1
  have q2 := k2.cell 2
  have q3 := k2.cell 3
  have q4 := k2.cell 4
  have q5 := k2.cell 5
  have q6 := k2.cell 6
  have q7 := k2.cell 7
  have q8 := k2.cell 8
  have q9 := k2.cell 9
  have q10 := k2.cell 10
  rw [hw2, hQ]
  clear hw2 hQ b2 k2 HRR
  go_wp2_with fail
  refine HRX.out.mono ?_
  rintro e w3 ⟨rfl, b3⟩
  go_wp2_with fail
  go_ret
  exact ⟨rfl, by first | exact B2.out.trans (b3.mono B2.out.size) | (rw [← hP]; exact B2.out.trans (b3.mono B2.out.size))⟩
end Go.Proofs.YtfbdnaclkfmiaaaGreatDoor
end
