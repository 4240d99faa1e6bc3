/- Texts laid together: CanB CanC CanD -/
import Derived.Test.YtbkfmbkamocllaaGreatDoorCanA
import Derived.Test.YtbkfmbkamocllaaGreatDoorTok
/-
  TREES AS FILES over plain lists, second part: what is written, and that it is told again, token by token. Nothing of any program.
-/
namespace Go.Proofs.YtbkfmbkamocllaaGreatDoor.Cn
open Go.Lib Tx Tk Tr

theorem nameT_facts {n : List UInt8} (h : nameT n = true) : (∃ c t, n = c :: t ∧ beg c = true) ∧ (∀ x ∈ n, wi x = true) := by
  unfold nameT at h
  rw [Bool.and_eq_true, List.all_eq_true] at h
  refine ⟨?_, h.1⟩
  cases n with
  | nil => cases h.2
  | cons c t => exact ⟨c, t, rfl, h.2⟩
theorem name_xmlns : nameT xmlnsL = true := by decide +kernel
theorem back_esc_ok {v : List UInt8} (h : valid v = true) : 39 ∉ esc v ∧ 60 ∉ esc v ∧ backO (esc v) = some v := Tk.esc_okb h
theorem attrT_cat (n v m : List UInt8) : attrT n v ++ m = [32] ++ (n ++ ([] ++ 61 :: ([] ++ 39 :: (esc v ++ 39 :: m)))) := by
  unfold attrT
  simp
theorem attrs_stop (as : List Att) {c : UInt8} (hc : c = 47 ∨ c = 62) (m : List UInt8) : Stops wi (attrsT as ++ c :: m) := by
  cases as with
  | nil => exact .cons _ (by rcases hc with rfl | rfl <;> decide)
  | cons a as => exact .cons _ (by decide)
/-- attributes, one behind the other -/
theorem attrs_mk {c : UInt8} (hc : c = 47 ∨ c = 62) (m : List UInt8) : ∀ (as bs : List Att), (∀ a ∈ as, nameT a.1 = true ∧ valid a.2 = true) → ((bs ++ as).map (·.1)).Nodup → many nextA bs (attrsT as ++ c :: m) = (bs ++ as, c :: m)
  | [], bs, _, _ => by
    have h := many_stop (xs := bs) (no_attr (b := []) (fun x hx => by cases hx) hc m bs)
    rw [List.append_nil]
    exact h
  | a :: as, bs, h, hn => by
    obtain ⟨h1, h2⟩ := h a List.mem_cons_self
    obtain ⟨f1, f2⟩ := nameT_facts h1
    obtain ⟨e1, _, e3⟩ := back_esc_ok h2
    have hA : attrL (attrT a.1 a.2 ++ (attrsT as ++ c :: m)) = some ((a.1, a.2), attrsT as ++ c :: m) := by
      rw [attrT_cat]
      exact attrL_mk _ (by simp) (by decide) f1 f2 (fun x hx => by cases hx) (fun x hx => by cases hx) (.inr rfl) e1 e3
    have hno : bs.any (fun b => b.1 == a.1) = false := by
      rw [List.any_eq_false]
      intro b hb e
      rw [List.map_append, List.map_cons, List.nodup_append] at hn
      exact hn.2.2 b.1 (List.mem_map.2 ⟨b, hb, rfl⟩) a.1 List.mem_cons_self (by simpa using e)
    have hN : nextA bs (attrT a.1 a.2 ++ (attrsT as ++ c :: m)) = some ((a.1, a.2), attrsT as ++ c :: m) := by
      unfold nextA
      rw [hA]
      unfold own
      simp only [hno]
      rfl
    have := many_step shrinksA hN
    have ih := attrs_mk hc m as (bs ++ [(a.1, a.2)]) (fun b hb => h b (List.mem_cons_of_mem _ hb)) (by simpa using hn)
    unfold attrsT at this ih ⊢
    rw [List.flatMap_cons, List.append_assoc, this, ih]
    simp
theorem allA_right {x : Nd} {sp : List UInt8} (h : RightA x.2.2.2.2.1) (hs : valid x.2.2.2.1 = true) : (allA x sp).length ≤ 10 ∧ (∀ a ∈ allA x sp, nameT a.1 = true ∧ valid a.2 = true) ∧ ((allA x sp).map (·.1)).Nodup := by
  obtain ⟨h1, h2, h3⟩ := h
  unfold allA
  split
  · exact ⟨by simpa using Nat.le_succ_of_le h1, fun a ha => ⟨(h3 a (by simpa using ha)).1, (h3 a (by simpa using ha)).2.2⟩, by simpa using h2⟩
  · refine ⟨by simp only [List.singleton_append, List.length_cons]; omega, fun a ha => ?_, ?_⟩
    · rw [List.singleton_append] at ha
      rcases List.mem_cons.1 ha with rfl | ha
      · exact ⟨name_xmlns, hs⟩
      · exact ⟨(h3 a ha).1, (h3 a ha).2.2⟩
    · rw [List.singleton_append, List.map_cons, List.nodup_cons]
      refine ⟨fun hm => ?_, h2⟩
      obtain ⟨a, ha, e⟩ := List.mem_map.1 hm
      exact (h3 a ha).2.1 e
/-- l is these tokens, whatever is behind it -/
def Eats (l : List UInt8) (ts : List Tok) : Prop := ∀ (r : List UInt8) (zs : List (Nat × Tok)), Walks r zs → ∃ us : List (Nat × Tok), us.map (·.2) = ts ∧ Walks (l ++ r) (us ++ zs)
theorem Eats.nil : Eats [] [] := fun _ _ h => ⟨[], rfl, h⟩
theorem Eats.append {a b : List UInt8} {s t : List Tok} (h1 : Eats a s) (h2 : Eats b t) : Eats (a ++ b) (s ++ t) := fun r zs h => by
  obtain ⟨us, e1, w1⟩ := h2 r zs h
  obtain ⟨vs, e2, w2⟩ := h1 _ _ w1
  exact ⟨vs ++ us, by rw [List.map_append, e1, e2], by rw [List.append_assoc, List.append_assoc]; exact w2⟩
theorem Eats.flat {f : Nat → List UInt8} {g : Nat → List Tok} : ∀ l : List Nat, (∀ k ∈ l, Eats (f k) (g k)) → Eats (l.flatMap f) (l.flatMap g)
  | [], _ => Eats.nil
  | k :: l, h => by
    rw [List.flatMap_cons, List.flatMap_cons]
    exact (h k List.mem_cons_self).append (Eats.flat l (fun j hj => h j (List.mem_cons_of_mem _ hj)))
theorem Eats.one {l : List UInt8} {t : Tok} (h : ∀ r, tokL (l ++ r) = some (t, r)) (hg : t.2.2.2.1.length ≤ 10) : Eats l [t] := fun r _ hw => ⟨[((l ++ r).length, t)], rfl, .cons (h r) (by omega) hw⟩
theorem name_not47 {n r : List UInt8} (h : nameT n = true) : ∀ x, n ++ r ≠ 47 :: x := by
  obtain ⟨⟨c, t, rfl, hb⟩, _⟩ := nameT_facts h
  intro x e
  injection e with e _
  subst e
  exact absurd hb (by decide)
theorem open_eats {x : Nd} {sp : List UInt8} (hn : nameT x.2.2.1 = true) (ha : RightA x.2.2.2.2.1) (hs : valid x.2.2.2.1 = true) : Eats (headT x sp ++ [47, 62]) [opT x sp true] ∧ Eats (headT x sp ++ [62]) [opT x sp false] := by
  obtain ⟨f1, f2⟩ := nameT_facts hn
  obtain ⟨g1, g2, g3⟩ := allA_right (sp := sp) ha hs
  have hne : x.2.2.1 ≠ [] := by obtain ⟨c, t, e, _⟩ := f1; rw [e]; simp
  have key : ∀ (c : UInt8) (m : List UInt8), (c = 47 ∨ c = 62) → tokL (60 :: (x.2.2.1 ++ (attrsT (allA x sp) ++ c :: m))) = ends x.2.2.1 (allA x sp, c :: m) := fun c m hc => by
    rw [tok_open (name_not47 hn)]
    unfold openL
    rw [name_mk f1 f2 (attrs_stop _ hc m)]
    simp only
    rw [if_neg hne, attrs_mk hc m _ [] g2 (by simpa using g3), List.nil_append]
  constructor
  · refine Eats.one (fun r => ?_) g1
    have := key 47 (62 :: r) (.inl rfl)
    unfold headT
    rw [show (60 :: (x.2.2.1 ++ attrsT (allA x sp)) ++ [47, 62]) ++ r = 60 :: (x.2.2.1 ++ (attrsT (allA x sp) ++ 47 :: 62 :: r)) by simp, this]
    rfl
  · refine Eats.one (fun r => ?_) g1
    have := key 62 r (.inr rfl)
    unfold headT
    rw [show (60 :: (x.2.2.1 ++ attrsT (allA x sp)) ++ [62]) ++ r = 60 :: (x.2.2.1 ++ (attrsT (allA x sp) ++ 62 :: r)) by simp, this]
    rfl
theorem close_eats {x : Nd} (hn : nameT x.2.2.1 = true) : Eats (closeT x.2.2.1) [clT x] := by
  obtain ⟨f1, f2⟩ := nameT_facts hn
  refine Eats.one (fun r => ?_) (Nat.zero_le _)
  unfold closeT
  rw [show (60 :: 47 :: (x.2.2.1 ++ [62])) ++ r = 60 :: 47 :: (x.2.2.1 ++ ([] ++ 62 :: r)) by simp, tok_close]
  exact close_mk r f1 f2 (fun y hy => by cases hy)
/-- a text, and what begins with "<" behind it -/
theorem text_eats {s l : List UInt8} {ts : List Tok} (hv : valid s = true) (h : Eats (60 :: l) ts) : Eats (esc s ++ 60 :: l) (txT s ++ ts) := by
  unfold txT
  split
  · rename_i e
    subst e
    exact h
  · rename_i hne
    obtain ⟨_, e2, e3⟩ := back_esc_ok hv
    have hu : esc s ≠ [] := fun e => by
      rw [e] at e3
      unfold backO at e3
      rw [if_pos (valid_some ch_nil), back_nil] at e3
      exact hne (Option.some.inj e3).symm
    intro r zs hw
    obtain ⟨us, e, w⟩ := h r zs hw
    refine ⟨((esc s ++ 60 :: l ++ r).length, (3, [], s, [], false)) :: us, by rw [List.map_cons, e]; rfl, ?_⟩
    exact .cons (by rw [List.append_assoc]; exact text_mk _ hu e2 e3 (.inr ⟨_, rfl⟩)) (by simp) w
theorem write_60 (ns : List Nd) (f i : Nat) (sp : List UInt8) : writeF ns f i sp = [] ∨ ∃ l, writeF ns f i sp = 60 :: l := by
  cases f with
  | zero => exact .inl rfl
  | succ f =>
    unfold writeF
    split
    · exact .inl rfl
    · split
      · exact .inr ⟨_, rfl⟩
      · exact .inr ⟨_, rfl⟩
theorem flat_60 {f : Nat → List UInt8} (h : ∀ k, f k = [] ∨ ∃ l, f k = 60 :: l) (m : List UInt8) : ∀ l : List Nat, ∃ q, l.flatMap f ++ 60 :: m = 60 :: q
  | [] => ⟨m, rfl⟩
  | k :: l => by
    rw [List.flatMap_cons, List.append_assoc]
    rcases h k with e | ⟨q, e⟩
    · rw [e, List.nil_append]
      exact flat_60 h m l
    · rw [e]
      exact ⟨_, rfl⟩
theorem write_eats {ns : List Nd} (h : Right ns) : ∀ (f i : Nat) (sp : List UInt8), Eats (writeF ns f i sp) (toksF ns f i sp)
  | 0, _, _ => Eats.nil
  | f + 1, i, sp => by
    unfold writeF toksF
    cases e : ns[i]? with
    | none => exact Eats.nil
    | some x =>
      obtain ⟨h1, h2, h3, h4⟩ := h.each x (List.mem_of_getElem? e)
      obtain ⟨o1, o2⟩ := open_eats (sp := sp) h1 h4 h3
      simp only
      split
      · exact o1
      · obtain ⟨q, hq⟩ := flat_60 (write_60 ns f · x.2.2.2.1) (47 :: (x.2.2.1 ++ [62])) (kidsL ns (i : Int))
        have hk := (Eats.flat (f := fun k => writeF ns f k x.2.2.2.1) (g := fun k => toksF ns f k x.2.2.2.1) (kidsL ns (i : Int)) (fun k _ => write_eats h f k x.2.2.2.1)).append (close_eats h1)
        unfold closeT at hk ⊢
        rw [hq] at hk ⊢
        have ht := text_eats (s := x.2.2.2.2.2) h2 hk
        have := o2.append ht
        rw [List.append_assoc] at this
        exact this
/-! ### it is a text -/
theorem ascii_one {c : UInt8} (h : c.toNat < 128) (h2 : 32 ≤ c.toNat ∨ c = 10) : valid [c] = true := by
  have H : ∀ k : Fin 128, 32 ≤ (UInt8.ofNat k.val).toNat ∨ UInt8.ofNat k.val = 10 → valid [UInt8.ofNat k.val] = true := by decide +kernel
  have h3 := H ⟨c.toNat, h⟩
  simp only [UInt8.ofNat_toNat] at h3
  exact h3 h2
theorem ascii_all : ∀ l : List UInt8, (∀ c ∈ l, c.toNat < 128 ∧ (32 ≤ c.toNat ∨ c = 10)) → valid l = true
  | [], _ => valid_some ch_nil
  | c :: l, h => by
    obtain ⟨h1, h2⟩ := h c List.mem_cons_self
    exact (valid_append (ascii_one h1 h2) (ascii_all l (fun d hd => h d (List.mem_cons_of_mem _ hd)))).1
theorem wi_ascii {c : UInt8} (h : wi c = true) : c.toNat < 128 ∧ 32 ≤ c.toNat := by
  have H : ∀ k : Fin 256, wi (UInt8.ofNat k.val) = true → (UInt8.ofNat k.val).toNat < 128 ∧ 32 ≤ (UInt8.ofNat k.val).toNat := by decide +kernel
  have h3 := H ⟨c.toNat, c.toNat_lt⟩
  simp only [UInt8.ofNat_toNat] at h3
  exact h3 h
theorem name_valid {n : List UInt8} (h : nameT n = true) : valid n = true := ascii_all n fun c hc => by
  have := wi_ascii ((nameT_facts h).2 c hc)
  exact ⟨this.1, .inl this.2⟩
theorem vap {a b : List UInt8} (x : valid a = true) (y : valid b = true) : valid (a ++ b) = true := (valid_append x y).1
theorem vcons {c : UInt8} {b : List UInt8} (h : valid [c] = true) (y : valid b = true) : valid (c :: b) = true := vap (a := [c]) h y
theorem flat_valid {α : Type} {f : α → List UInt8} : ∀ l : List α, (∀ a ∈ l, valid (f a) = true) → valid (l.flatMap f) = true
  | [], _ => valid_some ch_nil
  | a :: l, h => by
    rw [List.flatMap_cons]
    exact vap (h a List.mem_cons_self) (flat_valid l (fun b hb => h b (List.mem_cons_of_mem _ hb)))
theorem attr_valid {n v : List UInt8} (hn : nameT n = true) (hv : valid v = true) : valid (attrT n v) = true := by
  unfold attrT
  exact vcons (by decide +kernel) (vap (name_valid hn) (vcons (by decide +kernel) (vcons (by decide +kernel) (vap (esc_text hv).1 (by decide +kernel)))))
theorem head_valid {x : Nd} {sp : List UInt8} (hn : nameT x.2.2.1 = true) (ha : RightA x.2.2.2.2.1) (hs : valid x.2.2.2.1 = true) : valid (headT x sp) = true := by
  obtain ⟨_, g2, _⟩ := allA_right (sp := sp) ha hs
  unfold headT
  exact vcons (by decide +kernel) (vap (name_valid hn) (flat_valid _ (fun a h => attr_valid (g2 a h).1 (g2 a h).2)))
theorem write_valid {ns : List Nd} (h : Right ns) : ∀ (f i : Nat) (sp : List UInt8), valid (writeF ns f i sp) = true
  | 0, _, _ => valid_some ch_nil
  | f + 1, i, sp => by
    unfold writeF
    cases e : ns[i]? with
    | none => exact valid_some ch_nil
    | some x =>
      obtain ⟨h1, h2, h3, h4⟩ := h.each x (List.mem_of_getElem? e)
      have hh := head_valid (sp := sp) h1 h4 h3
      simp only
      split
      · exact vap hh (by decide +kernel)
      · refine vap hh (vap (by decide +kernel) (vap (esc_text h2).1 (vap (flat_valid _ (fun k _ => write_valid h f k _)) ?_)))
        unfold closeT
        exact vcons (by decide +kernel) (vcons (by decide +kernel) (vap (name_valid h1) (by decide +kernel)))
theorem canon_valid {ns : List Nd} (h : Right ns) : valid (canonT ns) = true := by
  unfold canonT
  exact vap (by decide +kernel) (vcons (by decide +kernel) (write_valid h _ _ _))
/-- what is written is told again, a text of 10 ahead -/
theorem canon_told {ns : List Nd} (h : Right ns) (hl : (canonT ns).length ≤ 20000) : ∃ us : List (Nat × Tok), us.map (·.2) = (3, [], [10], [], false) :: toksF ns 12 0 [] ∧ tokensL (canonT ns) = (us, 0, 0) := by
  obtain ⟨us, e, w⟩ := write_eats h 12 0 [] [] [] .nil
  rw [List.append_nil, List.append_nil] at w
  have hne : ∃ l, writeF ns 12 0 [] = 60 :: l := by
    have hp := h.pos
    unfold writeF
    rw [List.getElem?_eq_getElem hp]
    simp only
    split
    · exact ⟨_, rfl⟩
    · exact ⟨_, rfl⟩
  obtain ⟨l, hl2⟩ := hne
  have hT : tokL ([10] ++ writeF ns 12 0 []) = some ((3, [], [10], [], false), writeF ns 12 0 []) := text_mk _ (by simp) (by decide) (by decide +kernel) (.inr ⟨l, hl2⟩)
  have W := Walks.cons hT (by decide) w
  have hov : over headL (canonT ns) = [10] ++ writeF ns 12 0 [] := by
    unfold over canonT
    rw [if_pos (by simp), List.drop_left]
    rfl
  have := toks_of hl (canon_valid h) (by rw [hov]; exact W)
  refine ⟨_, ?_, this⟩
  unfold posL
  rw [List.map_map]
  show ((_, _) :: us).map (·.2) = _
  rw [List.map_cons, e]
end Go.Proofs.YtbkfmbkamocllaaGreatDoor.Cn
/-
  TREES AS FILES over plain lists, third part: what is written is parsed as it was, but for places. Nothing of any program.
-/
namespace Go.Proofs.YtbkfmbkamocllaaGreatDoor.Cn
open Go.Lib Tx Tk Tr

/-- A node without its place. -/
def noAt (x : Nd) : Nd := (x.1, (0 : Int), x.2.2)
theorem noAt_iff {x y : Nd} : noAt x = noAt y ↔ x.1 = y.1 ∧ x.2.2 = y.2.2 := by
  unfold noAt
  simp only [Prod.mk.injEq, true_and]
theorem noAt_get {a b : List Nd} (h : a.map noAt = b.map noAt) {j : Nat} {y : Nd} (hy : b[j]? = some y) : ∃ z, a[j]? = some z ∧ noAt z = noAt y := by
  have h1 := congrArg (·[j]?) h
  simp only [List.getElem?_map, hy, Option.map_some] at h1
  obtain ⟨z, hz, e⟩ := Option.map_eq_some_iff.1 h1
  exact ⟨z, hz, e⟩
theorem noAt_len {a b : List Nd} (h : a.map noAt = b.map noAt) : a.length = b.length := by
  have := congrArg List.length h
  simpa using this
theorem top_up {ns : List Nd} (h : Low ns) {p : Int} (hp : 0 ≤ p ∨ p = -1) : topI (up ns p).reverse = p := by
  rcases hp with h0 | rfl
  · obtain ⟨k, rfl⟩ : ∃ k : Nat, p = k := ⟨p.toNat, by omega⟩
    rw [up_pos h, List.reverse_cons]
    unfold topI
    rw [List.getLast?_concat]
  · rw [up_neg (by decide)]
    rfl
theorem Right.par_or {ns : List Nd} (h : Right ns) {i : Nat} (hi : i < ns.length) : (0 ≤ par ns i ∧ 0 < i) ∨ (par ns i = -1 ∧ i = 0) := by
  rcases Nat.eq_zero_or_pos i with rfl | h0
  · exact .inr ⟨h.first, rfl⟩
  · obtain ⟨p, e, _⟩ := h.stands i h0 hi
    exact .inl ⟨by omega, h0⟩
theorem others_id {al : List Att} (h : ∀ a ∈ al, a.1 ≠ xmlnsL) : others al = al ∧ al.find? isX = none := by
  constructor
  · unfold others
    rw [List.filter_eq_self]
    intro a ha
    unfold isX
    simpa using h a ha
  · rw [List.find?_eq_none]
    intro a ha
    unfold isX
    simpa using h a ha
theorem space_all {x : Nd} {sp : List UInt8} {st : St} (ha : RightA x.2.2.2.2.1) (hs : innerSpace st = sp) : spaceOf st (allA x sp) = x.2.2.2.1 ∧ others (allA x sp) = x.2.2.2.2.1 := by
  obtain ⟨h1, h2⟩ := others_id (al := x.2.2.2.2.1) (fun a h => (ha.2.2 a h).2.1)
  unfold allA
  split
  · rename_i e
    unfold spaceOf
    rw [List.nil_append, h2]
    exact ⟨by simp only; rw [hs, e], h1⟩
  · have hx : isX (xmlnsL, x.2.2.2.1) = true := by unfold isX; simp
    unfold spaceOf others at *
    rw [List.singleton_append, List.find?_cons, hx, List.filter_cons, hx]
    exact ⟨rfl, by simpa using h1⟩
/-- an element begins -/
theorem run_open {ns : List Nd} (h : Right ns) {i : Nat} {x : Nd} (hx : ns[i]? = some x) {st : St} (h1 : st.1.map noAt = (ns.take i).map noAt) (h2 : st.2 = (up ns (par ns i)).reverse) {sp : List UInt8} (hs : innerSpace st = sp) (u : Nat) (e : Bool) (rest : List TokI) :
    ∃ nd : Nd, noAt nd = noAt (x.1, x.2.1, x.2.2.1, x.2.2.2.1, x.2.2.2.2.1, []) ∧ runL st (toI (u, opT x sp e) :: rest) = runL (st.1 ++ [nd], if e then st.2 else st.2 ++ [i]) rest := by
  have hi := (List.getElem?_eq_some_iff.1 hx).1
  obtain ⟨_, _, _, ha⟩ := h.each x (List.mem_of_getElem? hx)
  obtain ⟨s1, s2⟩ := space_all (sp := sp) ha hs
  have hl : st.1.length = i := by
    have := noAt_len h1
    rw [List.length_take] at this
    omega
  have ht : topI st.2 = x.1 := by
    rw [h2, top_up h.low, par_some hx]
    rcases h.par_or hi with ⟨a, _⟩ | ⟨a, _⟩
    · exact .inl a
    · exact .inr a
  have hbad : badL st (toI (u, opT x sp e)) = 0 := by
    show badOpen st = 0
    unfold badOpen
    rw [if_neg, if_neg, if_neg]
    · have := h.many; omega
    · intro e12
      have := h.depth hi
      rw [up_pos h.low, List.length_cons, ← List.length_reverse, ← h2, e12] at this
      omega
    · rintro ⟨n1, n2⟩
      rcases h.par_or hi with ⟨a, _⟩ | ⟨_, rfl⟩
      · obtain ⟨p, hp⟩ : ∃ p : Nat, par ns i = p := ⟨(par ns i).toNat, by omega⟩
        rw [h2, hp, up_pos h.low] at n2
        simp at n2
      · exact n1 (List.length_eq_zero_iff.1 hl)
  refine ⟨nodeOf st (toI (u, opT x sp e)), ?_, ?_⟩
  · show noAt (topI st.2, _, x.2.2.1, spaceOf st (allA x sp), others (allA x sp), []) = _
    rw [ht, s1, s2]
    rfl
  · rw [run_good hbad]
    show runL (beginL st (toI (u, opT x sp e))) rest = _
    unfold beginL
    rw [hl]
    rfl
theorem modify_snoc (f : Nd → Nd) (a : Nd) : ∀ l : List Nd, (l ++ [a]).modify l.length f = l ++ [f a]
  | [] => rfl
  | b :: l => by rw [List.cons_append, List.length_cons, List.modify_succ_cons, modify_snoc f a l]; rfl
theorem same_nm {st : St} {p : Nat} {x : Nd} (hp : st.2.getLast? = some p) (hx : st.1[p]? = some x) (n : List UInt8) : sameName st n = decide (x.2.2.1 = n) := by
  unfold sameName
  rw [hp]
  simp only
  rw [hx]
theorem getLast_snoc (l : List Nat) (i : Nat) : (l ++ [i]).getLast? = some i := List.getLast?_concat
/-- its text -/
theorem run_text {l : List Nd} {o : List Nat} {i : Nat} {nd : Nd} (hl : l.length = i) (s : List UInt8) (us : List (Nat × Tok)) (hu : us.map (·.2) = txT s) (hn : nd.2.2.2.2.2 = []) (rest : List TokI) :
    runL (l ++ [nd], o ++ [i]) (us.map toI ++ rest) = runL (l ++ [(nd.1, nd.2.1, nd.2.2.1, nd.2.2.2.1, nd.2.2.2.2.1, s)], o ++ [i]) rest := by
  unfold txT at hu
  split at hu
  · rename_i e
    obtain rfl : us = [] := by simpa using hu
    subst e
    obtain ⟨a, b, c, d, f, g⟩ := nd
    simp only at hn
    subst hn
    rfl
  · obtain ⟨u, vs, rfl, e1, e2⟩ := List.map_eq_cons_iff.1 hu
    obtain rfl : vs = [] := by simpa using e2
    obtain ⟨k, t⟩ := u
    simp only at e1
    subst e1
    rw [List.map_cons, List.map_nil, List.singleton_append, run_good]
    · show runL (sayL _ s) rest = _
      unfold sayL
      simp only
      rw [getLast_snoc]
      simp only
      congr 2
      rw [← hl, modify_snoc]
      unfold addText
      rw [hn, List.nil_append]
    · show (if o ++ [i] = [] ∧ _ then 6 else 0) = 0
      rw [if_neg (by simp)]
/-- its end -/
theorem run_close {l : List Nd} {o : List Nat} {i : Nat} {x z : Nd} (hz : l[i]? = some z) (hn : z.2.2.1 = x.2.2.1) (u : Nat) (rest : List TokI) : runL (l, o ++ [i]) (toI (u, clT x) :: rest) = runL (l, o) rest := by
  rw [run_good]
  · show runL (l, (o ++ [i]).dropLast) rest = _
    rw [List.dropLast_concat]
  · show (if sameName (l, o ++ [i]) x.2.2.1 then 0 else 6) = 0
    rw [same_nm (st := (l, o ++ [i])) (getLast_snoc o i) hz, decide_eq_true hn]
    rfl
theorem take_snoc {ns : List Nd} {i : Nat} {x : Nd} (hx : ns[i]? = some x) : ns.take (i + 1) = ns.take i ++ [x] := by rw [List.take_add_one, hx]; rfl
theorem split_map {us : List (Nat × Tok)} {a b : List Tok} (h : us.map (·.2) = a ++ b) : ∃ u1 u2, us = u1 ++ u2 ∧ u1.map (·.2) = a ∧ u2.map (·.2) = b := List.map_eq_append_iff.1 h
/-- the state behind a node's text: what is written of node i on -/
def RunsTo (ns : List Nd) (st : St) (us : List (Nat × Tok)) (j : Nat) : Prop := ∀ rest, ∃ st' : St, runL st (us.map toI ++ rest) = runL st' rest ∧ st'.1.map noAt = (ns.take j).map noAt ∧ st'.2 = st.2
theorem run_kids {ns : List Nd} (h : Right ns) {f i : Nat} {x : Nd} (hx : ns[i]? = some x)
    (ih : ∀ (k : Nat) (st : St) (us : List (Nat × Tok)), k < ns.length → par ns k = (i : Int) → st.1.map noAt = (ns.take k).map noAt → st.2 = (up ns (par ns k)).reverse → innerSpace st = x.2.2.2.1 → us.map (·.2) = toksF ns f k x.2.2.2.1 → RunsTo ns st us (endOf ns k)) :
    ∀ (m k : Nat) (st : St) (us : List (Nat × Tok)), endOf ns i - k ≤ m → i < k → k ≤ endOf ns i → (k = endOf ns i ∨ par ns k = (i : Int)) → st.1.map noAt = (ns.take k).map noAt → st.2 = (up ns (i : Int)).reverse →
      us.map (·.2) = (kidsFrom ns i k).flatMap (fun k => toksF ns f k x.2.2.2.1) → RunsTo ns st us (endOf ns i)
  | m, k, st, us, hm, h1, h2, h3, e1, e2, hu => by
    have hi := (List.getElem?_eq_some_iff.1 hx).1
    rcases Nat.eq_or_lt_of_le h2 with rfl | h4
    · rw [kids_no h] at hu
      obtain rfl : us = [] := by simpa using hu
      exact fun rest => ⟨st, rfl, e1, rfl⟩
    · have hp : par ns k = (i : Int) := h3.resolve_left (by omega)
      have hkn : k < ns.length := Nat.lt_of_lt_of_le h4 (end_le ns hi)
      rw [kids_one h hkn hp, List.flatMap_cons] at hu
      obtain ⟨u1, u2, rfl, v1, v2⟩ := split_map hu
      have hsp : innerSpace st = x.2.2.2.1 := by
        obtain ⟨z, hz, ez⟩ := noAt_get e1 (j := i) (y := x) (by rw [List.getElem?_take_of_lt h1]; exact hx)
        unfold innerSpace
        rw [e2, up_pos h.low, List.reverse_cons, getLast_snoc]
        simp only
        rw [hz]
        simp only
        rw [(noAt_iff.1 ez).2]
      have hke := end_gt ns k
      cases m with
      | zero => omega
      | succ m =>
        intro rest
        obtain ⟨st1, r1, p1, q1⟩ := ih k st u1 hkn hp e1 (by rw [hp]; exact e2) hsp v1 (u2.map toI ++ rest)
        have hw := end_within hi h1 h4
        obtain ⟨st2, r2, p2, q2⟩ := run_kids h hx ih m (endOf ns k) st1 u2 (by omega) (by omega) hw (by
          rcases Nat.eq_or_lt_of_le hw with e | e
          · exact .inl e
          · exact .inr (kid_next h hi h1 h4 hp e)) p1 (q1.trans e2) v2 rest
        refine ⟨st2, ?_, p2, q2.trans q1⟩
        rw [List.map_append, List.append_assoc, r1, r2]
theorem run_write {ns : List Nd} (h : Right ns) : ∀ (f i : Nat) (sp : List UInt8) (st : St) (us : List (Nat × Tok)), i < ns.length → 13 ≤ f + (up ns (i : Int)).length → st.1.map noAt = (ns.take i).map noAt → st.2 = (up ns (par ns i)).reverse → innerSpace st = sp →
    us.map (·.2) = toksF ns f i sp → RunsTo ns st us (endOf ns i)
  | 0, i, sp, st, us, hi, hf, _, _, _, _ => by
    have := h.depth hi
    omega
  | f + 1, i, sp, st, us, hi, hf, h1, h2, hs, hu => by
    have hx : ns[i]? = some ns[i] := List.getElem?_eq_getElem hi
    obtain ⟨x, hx'⟩ : ∃ x, ns[i] = x := ⟨_, rfl⟩
    rw [hx'] at hx
    have hl : st.1.length = i := by
      have := noAt_len h1
      rw [List.length_take] at this
      omega
    unfold toksF at hu
    rw [hx] at hu
    simp only at hu
    split at hu
    · rename_i hc
      obtain ⟨u, vs, rfl, v1, v2⟩ := List.map_eq_cons_iff.1 hu
      obtain rfl : vs = [] := by simpa using v2
      obtain ⟨k, t⟩ := u
      simp only at v1
      subst v1
      intro rest
      obtain ⟨nd, n1, n2⟩ := run_open h hx h1 h2 hs k true rest
      refine ⟨_, n2, ?_, rfl⟩
      have hend : endOf ns i = i + 1 := by
        have h3 := end_gt ns i
        rcases Nat.lt_or_ge (i + 1) (endOf ns i) with h4 | h4
        · exfalso
          have h5 := kid_first h hi h4
          have h6 := hc.2
          rw [kids_from h.low hi, kids_one h (Nat.lt_of_lt_of_le h4 (end_le ns hi)) h5] at h6
          cases h6
        · omega
      rw [hend, take_snoc hx, List.map_append, List.map_append, h1, List.map_singleton, List.map_singleton, n1]
      rw [show (x.1, x.2.1, x.2.2.1, x.2.2.2.1, x.2.2.2.2.1, ([] : List UInt8)) = x by
        obtain ⟨a, b, c, d, e, g⟩ := x
        have := hc.1
        simp only at this
        rw [this]]
    · obtain ⟨u, vs, rfl, v1, v2⟩ := List.map_eq_cons_iff.1 hu
      obtain ⟨u1, u23, rfl, w1, w23⟩ := split_map v2
      obtain ⟨u2, u3, rfl, w2, w3⟩ := split_map w23
      obtain ⟨u3', vs3, rfl, y1, y2⟩ := List.map_eq_cons_iff.1 w3
      obtain rfl : vs3 = [] := by simpa using y2
      obtain ⟨k, t⟩ := u
      obtain ⟨k3, t3⟩ := u3'
      simp only at v1 y1
      subst v1 y1
      intro rest
      obtain ⟨nd, n1, n2⟩ := run_open h hx h1 h2 hs k false (u1.map toI ++ (u2.map toI ++ (toI (k3, clT x) :: rest)))
      have ne := (noAt_iff.1 n1).2
      have r1 := run_text (l := st.1) (o := st.2) hl x.2.2.2.2.2 u1 w1 (nd := nd) (by rw [ne]) (u2.map toI ++ (toI (k3, clT x) :: rest))
      have hup : st.2 ++ [i] = (up ns (i : Int)).reverse := by rw [up_pos h.low, List.reverse_cons, h2]
      have e1 : (st.1 ++ [(nd.1, nd.2.1, nd.2.2.1, nd.2.2.2.1, nd.2.2.2.2.1, x.2.2.2.2.2)]).map noAt = (ns.take (i + 1)).map noAt := by
        rw [take_snoc hx, List.map_append, List.map_append, h1, List.map_singleton, List.map_singleton]
        congr 2
        refine noAt_iff.2 ⟨(noAt_iff.1 n1).1, ?_⟩
        simp only
        rw [ne]
      rw [kids_from h.low hi] at w2
      have hge := end_gt ns i
      obtain ⟨st3, r3, p3, q3⟩ := run_kids h hx (fun k st us a b c d e g => run_write h f k _ st us a (by rw [up_pos h.low, b, List.length_cons]; omega) c d e g) _ (i + 1) (st.1 ++ [(nd.1, nd.2.1, nd.2.2.1, nd.2.2.2.1, nd.2.2.2.2.1, x.2.2.2.2.2)], st.2 ++ [i]) u2 (Nat.le_refl _) (Nat.lt_succ_self _) (by omega) (by
        rcases Nat.lt_or_ge (i + 1) (endOf ns i) with h4 | h4
        · exact .inr (kid_first h hi h4)
        · exact .inl (by omega)) e1 hup w2 (toI (k3, clT x) :: rest)
      obtain ⟨z, hz, ez⟩ := noAt_get p3 (j := i) (y := x) (by rw [List.getElem?_take_of_lt hge]; exact hx)
      have r4 := run_close (o := st.2) (x := x) hz (by rw [(noAt_iff.1 ez).2]) k3 rest
      refine ⟨(st3.1, st.2), ?_, p3, rfl⟩
      rw [List.map_cons, List.map_append, List.map_append, List.map_cons, List.map_nil, List.cons_append, List.append_assoc, List.append_assoc, List.singleton_append, n2]
      rw [if_neg (by decide), r1, r3]
      rw [show st3 = (st3.1, st.2 ++ [i]) from Prod.ext rfl q3]
      exact r4
theorem kid_noAt {a b : List Nd} (h : a.map noAt = b.map noAt) (i : Nat) : kidOf a i = kidOf b i := by
  have hk : ∀ l : List Nd, kidOf l i = (l.map noAt).any (fun x => decide (x.1 = (i : Int))) := fun l => by
    unfold kidOf
    rw [List.any_map]
    rfl
  rw [hk, hk, h]
theorem Right.kid_text {ns : List Nd} (h : Right ns) {i : Nat} (hk : kidOf ns i = true) : textAt ns i = [] := by
  unfold kidOf at hk
  rw [List.any_eq_true] at hk
  obtain ⟨x, hx, e⟩ := hk
  obtain ⟨j, hj⟩ := List.mem_iff_getElem?.1 hx
  have e1 : par ns j = (i : Int) := by rw [par_some hj]; exact of_decide_eq_true e
  have hjn := (List.getElem?_eq_some_iff.1 hj).1
  rcases h.par_or hjn with ⟨_, h0⟩ | ⟨h0, _⟩
  · obtain ⟨p, ep, _, _, ht, _⟩ := h.stands j h0 hjn
    obtain rfl : p = i := by omega
    exact ht
  · omega
/-- those that are right stay as they are in the end -/
theorem fin_canon {ns els : List Nd} (h : Right ns) (he : els.map noAt = ns.map noAt) : finL els = (els, 0, 0) := by
  have htx : ∀ i x, els[i]? = some x → kidOf els i = true → x.2.2.2.2.2 = [] := fun i x hx hk => by
    obtain ⟨y, hy, e⟩ := noAt_get he.symm hx
    rw [kid_noAt he] at hk
    have := h.kid_text hk
    rw [text_some hy, (noAt_iff.1 e).2] at this
    exact this
  rw [fin_right (fun i hi => by
    rw [wrong_eq (List.getElem?_eq_getElem hi)]
    cases hk : kidOf els i with
    | false => rfl
    | true => rw [htx i _ (List.getElem?_eq_getElem hi) hk]; rfl)]
  congr 1
  refine List.ext_getElem? fun i => ?_
  rcases Nat.lt_or_ge i els.length with hi | hi
  · have hx : els[i]? = some els[i] := List.getElem?_eq_getElem hi
    rw [doneF_get els 0 els i _ hx, hx, Nat.zero_add]
    congr 1
    unfold doneAt
    cases hk : kidOf els i with
    | false => rfl
    | true =>
      have := htx i _ hx hk
      obtain ⟨y, hy⟩ : ∃ y, els[i] = y := ⟨_, rfl⟩
      rw [hy] at this ⊢
      obtain ⟨a, b, c, d, e, g⟩ := y
      simp only at this
      subst this
      rfl
  · rw [List.getElem?_eq_none hi, List.getElem?_eq_none (by rw [doneF_len]; exact hi)]
/-- what is written is parsed as it was, but for places -/
theorem parse_canon {ns : List Nd} (h : Right ns) (hl : (canonT ns).length ≤ 20000) : ∃ els, parseL (canonT ns) = (els, 0, 0) ∧ els.map noAt = ns.map noAt := by
  obtain ⟨us, e, w⟩ := canon_told h hl
  obtain ⟨u, vs, rfl, v1, v2⟩ := List.map_eq_cons_iff.1 e
  obtain ⟨k, t⟩ := u
  simp only at v1
  subst v1
  have hpos := h.pos
  obtain ⟨st', r, p, q⟩ := run_write h 12 0 [] ([], []) vs hpos (by rw [up_pos h.low, List.length_cons]; omega) (by rw [List.take_zero]) (by rw [h.first, up_neg (by decide)]; rfl) rfl v2 []
  rw [List.append_nil] at r
  rw [end_zero h, List.take_length] at p
  have hrun : runL ([], []) (((k, ((3, [], [10], [], false) : Tok)) :: vs).map toI) = (none, st') := by
    rw [List.map_cons, run_good (by show (if ([] : List Nat) = [] ∧ blankL [10] = false then 6 else 0) = 0; decide)]
    show runL ([], []) (vs.map toI) = _
    rw [r]
    rfl
  refine ⟨st'.1, ?_, p⟩
  unfold parseL
  rw [w, if_pos rfl, build_end hrun]
  unfold endL
  rw [if_neg, fin_canon h p]
  rintro (e0 | e0)
  · have := noAt_len p
    rw [e0, List.length_nil] at this
    omega
  · exact e0 q
end Go.Proofs.YtbkfmbkamocllaaGreatDoor.Cn
/-
  TREES AS FILES over plain lists, fourth part: what is parsed may be written. Nothing of any program.
-/
namespace Go.Proofs.YtbkfmbkamocllaaGreatDoor.Cn
open Go.Lib Tx Tk Tr

/-! ### what comes back is a text -/
theorem ent_good {n : List UInt8} {v : Nat} (h : ent n = some v) : sane v ∧ okc v = true := by
  have hk : ∀ {o : Option Nat}, keep o = some v → sane v ∧ okc v = true := fun {o} h => by
    unfold keep at h
    split at h
    · split at h
      · rename_i hg
        cases h
        unfold good at hg
        rw [Bool.and_eq_true, decide_eq_true_eq] at hg
        exact hg
      · cases h
    · cases h
  unfold ent at h
  split at h
  · cases h; exact ⟨.inl (by decide), by rw [okc_eq]; decide⟩
  split at h
  · cases h; exact ⟨.inl (by decide), by rw [okc_eq]; decide⟩
  split at h
  · cases h; exact ⟨.inl (by decide), by rw [okc_eq]; decide⟩
  split at h
  · cases h; exact ⟨.inl (by decide), by rw [okc_eq]; decide⟩
  split at h
  · cases h; exact ⟨.inl (by decide), by rw [okc_eq]; decide⟩
  split at h
  · exact hk h
  · exact hk h
  · cases h
theorem back_valid : ∀ (m : Nat) (l x : List UInt8), l.length ≤ m → valid l = true → back l = some x → valid x = true
  | _, [], x, _, _, h => by rw [back_nil] at h; cases h; exact valid_some ch_nil
  | 0, _ :: _, _, hm, _, _ => by simp at hm
  | m + 1, c :: t, x, hm, hv, h => by
    obtain ⟨p, r, e, hlt, vp, vr, hp⟩ := piece (l := c :: t) (by simp) hv
    rw [e] at h
    have hr : r.length ≤ m := by omega
    rcases hp with ⟨b, rfl, hb, _⟩ | hp
    · rw [List.singleton_append] at h
      by_cases h60 : b = 60
      · subst h60; rw [back_lt] at h; cases h
      by_cases h38 : b = 38
      · subst h38
        cases ec : cutS r with
        | none => rw [back_amp_none ec] at h; cases h
        | some q =>
          obtain ⟨n, r'⟩ := q
          cases ee : ent n with
          | none => rw [back_amp_bad ec ee] at h; cases h
          | some v =>
            rw [back_amp_some ec ee] at h
            obtain ⟨y, hy, rfl⟩ := Option.map_eq_some_iff.1 h
            obtain ⟨s1, s2⟩ := ent_good ee
            have hl := cutS_len ec
            have hr' : valid r' = true := by
              rw [cutS_cat ec] at vr
              exact valid_tail (b := 59) (by decide) (valid_cut _ n r' 59 (Nat.le_refl _) (by decide) vr).2
            exact vap (valid_some (ch_enc s1 s2)) (back_valid m r' y (by omega) hr' hy)
      · rw [back_plain r h60 h38] at h
        obtain ⟨y, hy, rfl⟩ := Option.map_eq_some_iff.1 h
        exact vcons vp (back_valid m r y hr vr hy)
    · rw [back_plains p r (fun d hd => by
        have := hp d hd
        exact ⟨fun e => by subst e; exact absurd this (by decide), fun e => by subst e; exact absurd this (by decide)⟩)] at h
      obtain ⟨y, hy, rfl⟩ := Option.map_eq_some_iff.1 h
      exact vap vp (back_valid m r y hr vr hy)
theorem backO_valid {l x : List UInt8} (h : backO l = some x) : valid x = true := by
  obtain ⟨h1, h2, _⟩ := backO_some h
  exact back_valid _ l x (Nat.le_refl _) h1 h2
/-! ### what tokens are of -/
def GoodA (l : List Att) : Prop := (l.map (·.1)).Nodup ∧ ∀ a ∈ l, nameT a.1 = true ∧ valid a.2 = true
def GoodT (t : Tok) : Prop := (t.1 = 1 → nameT t.2.1 = true ∧ GoodA t.2.2.2.1) ∧ (t.1 = 3 → valid t.2.2.1 = true)
theorem nameL_T {l : List UInt8} (h : (nameL l).1 ≠ []) : nameT (nameL l).1 = true := by
  obtain ⟨⟨c, t, e, hb⟩, h2, _, _⟩ := name_some (l := l) (n := (nameL l).1) (m := (nameL l).2) rfl h
  unfold nameT
  rw [Bool.and_eq_true, List.all_eq_true]
  refine ⟨h2, ?_⟩
  rw [e]
  exact hb
theorem next_good {al : List Att} {l r : List UInt8} {a : Att} (h : nextA al l = some (a, r)) (hg : GoodA al) : GoodA (al ++ [a]) := by
  obtain ⟨h1, h2⟩ := own_some h
  obtain ⟨_, h3⟩ := attrL_some h1
  obtain ⟨hn, r1, _, hv, ea⟩ := attrB_cat h3
  obtain ⟨_, _, _, _, _, hx⟩ := val_cat hv
  refine ⟨?_, fun b hb => ?_⟩
  · rw [List.map_append, List.map_singleton, List.nodup_append]
    refine ⟨hg.1, by simp, fun n hn b hb e => ?_⟩
    obtain ⟨c, hc, rfl⟩ := List.mem_map.1 hn
    rw [List.mem_singleton] at hb
    subst hb
    have := List.any_eq_false.1 h2 c hc
    exact this (by simpa using e)
  · rcases List.mem_append.1 hb with hb | hb
    · exact hg.2 b hb
    · rw [List.mem_singleton] at hb
      subst hb
      exact ⟨by rw [ea]; exact nameL_T hn, backO_valid hx⟩
theorem many_good : ∀ (f : Nat) (al : List Att) (l : List UInt8), GoodA al → GoodA (manyF nextA f al l).1
  | 0, _, _, h => h
  | f + 1, al, l, h => by
    unfold manyF
    cases e : nextA al l with
    | none => exact h
    | some p => exact many_good f _ _ (next_good (a := p.1) (r := p.2) e h)
theorem tok_good {l r : List UInt8} {t : Tok} (h : tokL l = some (t, r)) : GoodT t := by
  rcases cases_tok l with ⟨x, rfl⟩ | ⟨x, rfl, hx⟩ | hx
  · rw [tok_close] at h
    unfold closeL at h
    split at h
    · cases h
    · split at h
      · cases h
        exact ⟨fun e => (by cases e), fun e => (by cases e)⟩
      · cases h
  · rw [tok_open hx] at h
    unfold openL at h
    split at h
    · cases h
    · rename_i hn
      have hg := many_good ((nameL x).2.length + 1) [] (nameL x).2 ⟨List.nodup_nil, fun a ha => by cases ha⟩
      rcases ends_some h with ⟨_, rfl⟩ | ⟨_, rfl⟩
      · exact ⟨fun _ => ⟨nameL_T hn, hg⟩, fun e => (by cases e)⟩
      · exact ⟨fun _ => ⟨nameL_T hn, hg⟩, fun e => (by cases e)⟩
  · rw [tok_text hx] at h
    unfold textL at h
    split at h
    · cases h
    · cases hb : backO (l.takeWhile (· != 60)) with
      | none => rw [hb] at h; cases h
      | some y =>
        rw [hb] at h
        cases h
        exact ⟨fun e => (by cases e), fun _ => backO_valid hb⟩
theorem walks_good {l : List UInt8} {zs : List (Nat × Tok)} (h : Walks l zs) : ∀ z ∈ zs, GoodT z.2 := by
  induction h with
  | nil => exact fun z hz => by cases hz
  | cons h1 _ _ ih =>
    intro z hz
    rcases List.mem_cons.1 hz with rfl | hz
    · exact tok_good h1
    · exact ih z hz
/-! ### what grows is right but for texts -/
theorem chain_congr {a b : List Nd} (h : ∀ i, par a i = par b i) : ∀ (f : Nat) (k : Int), chain a f k = chain b f k
  | 0, _ => rfl
  | f + 1, k => by
    unfold chain
    split
    · rw [h, chain_congr h f]
    · rfl
theorem up_congr {a b : List Nd} (h : ∀ i, par a i = par b i) (k : Int) : up a k = up b k := chain_congr h _ k
theorem chain_snoc {ns : List Nd} (h : Low ns) (x : Nd) : ∀ (f : Nat) (k : Int), k < ns.length → chain (ns ++ [x]) f k = chain ns f k
  | 0, _, _ => rfl
  | f + 1, k, hk => by
    unfold chain
    split
    · rename_i h0
      have e : par (ns ++ [x]) k.toNat = par ns k.toNat := by unfold par; rw [List.getElem?_append_left (by omega)]
      have := h k.toNat
      rw [e, chain_snoc h x f _ (by omega)]
    · rfl
theorem up_snoc {ns : List Nd} (h : Low ns) (x : Nd) {k : Int} (hk : k < ns.length) : up (ns ++ [x]) k = up ns k := chain_snoc h x _ k hk
theorem up_trans {ns : List Nd} (h : Low ns) {p q : Nat} : ∀ (m : Nat) (k : Int), k ≤ m → p ∈ up ns k → q ∈ up ns (p : Int) → q ∈ up ns k
  | m, k, hm, hp, hq => by
    rcases Int.lt_or_le k 0 with h0 | h0
    · rw [up_neg h0] at hp; cases hp
    obtain ⟨j, rfl⟩ : ∃ j : Nat, k = j := ⟨k.toNat, by omega⟩
    rw [up_pos h] at hp ⊢
    rcases List.mem_cons.1 hp with rfl | hp
    · rw [up_pos h] at hq; exact hq
    · cases m with
      | zero =>
        have := h j
        rw [up_neg (by omega)] at hp
        cases hp
      | succ m => have := h j; exact List.mem_cons_of_mem _ (up_trans h m (par ns j) (by omega) hp hq)
/-- Nodes that grow, and those that are open. -/
structure Grows (st : St) : Prop where
  low : Low st.1
  first : st.1 ≠ [] → par st.1 0 = -1
  stands : ∀ i, 0 < i → i < st.1.length → ∃ p : Nat, par st.1 i = p ∧ p < i ∧ p ∈ up st.1 ((i : Int) - 1) ∧ (up st.1 (p : Int)).length + 1 ≤ 12
  opens : st.2 = [] ∨ ∃ p : Nat, st.2.reverse = up st.1 (p : Int) ∧ p ∈ up st.1 ((st.1.length : Int) - 1)
  each : ∀ x ∈ st.1, nameT x.2.2.1 = true ∧ valid x.2.2.2.2.2 = true ∧ valid x.2.2.2.1 = true ∧ GoodA x.2.2.2.2.1 ∧ ∀ a ∈ x.2.2.2.2.1, a.1 ≠ xmlnsL
theorem Grows.nil : Grows ([], []) := ⟨fun i => by unfold par; simp; omega, fun h => absurd rfl h, fun i _ h => absurd h (Nat.not_lt_zero _), .inl rfl, fun x h => by cases h⟩
theorem par_snoc_lt {ns : List Nd} (x : Nd) {i : Nat} (h : i < ns.length) : par (ns ++ [x]) i = par ns i := by unfold par; rw [List.getElem?_append_left h]
theorem par_snoc {ns : List Nd} (x : Nd) : par (ns ++ [x]) ns.length = x.1 := by unfold par; rw [List.getElem?_append_right (Nat.le_refl _), Nat.sub_self]; rfl
theorem others_good {al : List Att} (h : GoodA al) : GoodA (others al) ∧ ∀ a ∈ others al, a.1 ≠ xmlnsL := by
  unfold others
  refine ⟨⟨(h.1.sublist ((List.filter_sublist).map _)), fun a ha => h.2 a (List.mem_filter.1 ha).1⟩, fun a ha e => ?_⟩
  have := (List.mem_filter.1 ha).2
  unfold isX at this
  rw [e] at this
  simp at this
theorem Grows.inner {st : St} (h : Grows st) : valid (innerSpace st) = true := by
  unfold innerSpace
  split
  · split
    · rename_i x hx
      exact (h.each x (List.mem_of_getElem? hx)).2.2.1
    · exact valid_some ch_nil
  · exact valid_some ch_nil
theorem Grows.space {st : St} (h : Grows st) {al : List Att} (ha : GoodA al) : valid (spaceOf st al) = true := by
  unfold spaceOf
  split
  · rename_i a e
    exact (ha.2 a (List.mem_of_find?_eq_some e)).2
  · exact h.inner
theorem Grows.begin {st : St} (h : Grows st) (hok : OkS st) (k : Nat) {t : Tok} (ht : GoodT t) (h1 : t.1 = 1) (hb : badOpen st = 0) : Grows (beginL st (toI (k, t))) := by
  obtain ⟨b1, b2, b3⟩ := badOpen_zero hb
  obtain ⟨n1, n2⟩ := ht.1 h1
  have hdeep := hok.deep
  obtain ⟨nd, hnd⟩ : ∃ nd, nodeOf st (toI (k, t)) = nd := ⟨_, rfl⟩
  have hp0 : nd.1 = topI st.2 := by rw [← hnd]; rfl
  have hea : nameT nd.2.2.1 = true ∧ valid nd.2.2.2.2.2 = true ∧ valid nd.2.2.2.1 = true ∧ GoodA nd.2.2.2.2.1 ∧ ∀ a ∈ nd.2.2.2.2.1, a.1 ≠ xmlnsL := by
    rw [← hnd]
    exact ⟨n1, valid_some ch_nil, h.space n2, (others_good n2).1, (others_good n2).2⟩
  have htop : topI st.2 < (st.1.length : Int) := top_lt hok.open_
  have hlow : Low (st.1 ++ [nd]) := fun i => by
    rcases Nat.lt_or_ge i st.1.length with hi | hi
    · rw [par_snoc_lt nd hi]; exact h.low i
    · rcases Nat.eq_or_lt_of_le hi with rfl | hi
      · rw [par_snoc, hp0]; exact htop
      · rw [par_none (by simp; omega)]; omega
  have hold : st.2 ≠ [] → ∃ p : Nat, topI st.2 = p ∧ p < st.1.length ∧ st.2.reverse = up st.1 (p : Int) ∧ p ∈ up st.1 ((st.1.length : Int) - 1) := fun hne => by
    rcases h.opens with e | ⟨p, e1, e2⟩
    · exact absurd e hne
    · have e3 : topI st.2 = (p : Int) := by
        rw [← List.reverse_reverse st.2, e1]
        exact top_up h.low (.inl (by omega))
      exact ⟨p, e3, by omega, e1, e2⟩
  have hns : ∀ st2, Grows (st.1 ++ [nd], st2) ↔ (st2 = [] ∨ ∃ p : Nat, st2.reverse = up (st.1 ++ [nd]) (p : Int) ∧ p ∈ up (st.1 ++ [nd]) (st.1.length : Int)) := fun st2 => by
    constructor
    · intro g
      rcases g.opens with e | ⟨p, e1, e2⟩
      · exact .inl e
      · refine .inr ⟨p, e1, ?_⟩
        have : (((st.1 ++ [nd]).length : Nat) : Int) - 1 = (st.1.length : Int) := by simp
        rw [← this]
        exact e2
    · intro ho
      refine ⟨hlow, fun _ => ?_, fun i h0 hi => ?_, ?_, fun x hx => ?_⟩
      · show par (st.1 ++ [nd]) 0 = -1
        rcases Nat.eq_zero_or_pos st.1.length with e | e
        · have e0 := List.length_eq_zero_iff.1 e
          have e2 : st.2 = [] := by
            rcases h.opens with e2 | ⟨p, _, e2⟩
            · exact e2
            · rw [e, up_neg (by decide)] at e2; cases e2
          rw [e0]
          show nd.1 = -1
          rw [hp0, e2]
          rfl
        · rw [par_snoc_lt nd e]
          exact h.first (List.length_pos_iff.1 e)
      · rw [List.length_append, List.length_singleton] at hi
        show ∃ p : Nat, par (st.1 ++ [nd]) i = p ∧ p < i ∧ p ∈ up (st.1 ++ [nd]) ((i : Int) - 1) ∧ (up (st.1 ++ [nd]) (p : Int)).length + 1 ≤ 12
        rcases Nat.lt_or_ge i st.1.length with hl | hl
        · obtain ⟨p, e1, e2, e3, e4⟩ := h.stands i h0 hl
          exact ⟨p, by rw [par_snoc_lt nd hl]; exact e1, e2, by rw [up_snoc h.low nd (by omega)]; exact e3, by rw [up_snoc h.low nd (by omega)]; exact e4⟩
        · obtain rfl : i = st.1.length := by omega
          obtain ⟨p, e1, e2, e3, e4⟩ := hold (b1.resolve_left (List.length_pos_iff.1 h0))
          refine ⟨p, by rw [par_snoc, hp0, e1], e2, by rw [up_snoc h.low nd (by omega)]; exact e4, ?_⟩
          rw [up_snoc h.low nd (by omega), ← e3, List.length_reverse]
          omega
      · rcases ho with e | ⟨p, e1, e2⟩
        · exact .inl e
        · refine .inr ⟨p, e1, ?_⟩
          have : (((st.1 ++ [nd]).length : Nat) : Int) - 1 = (st.1.length : Int) := by simp
          show p ∈ up (st.1 ++ [nd]) (((st.1 ++ [nd]).length : Int) - 1)
          rw [this]
          exact e2
      · rcases List.mem_append.1 hx with hx | hx
        · exact h.each x hx
        · rw [List.mem_singleton] at hx
          subst hx
          exact hea
  have hup : up (st.1 ++ [nd]) (st.1.length : Int) = st.1.length :: up (st.1 ++ [nd]) (topI st.2) := by rw [up_pos hlow, par_snoc, hp0]
  unfold beginL
  rw [hnd]
  refine (hns _).2 ?_
  split
  · by_cases e : st.2 = []
    · exact .inl e
    · obtain ⟨p, e1, e2, e3, e4⟩ := hold e
      refine .inr ⟨p, by rw [up_snoc h.low nd (by omega)]; exact e3, ?_⟩
      rw [hup, e1]
      exact List.mem_cons_of_mem _ (up_self hlow p)
  · refine .inr ⟨st.1.length, ?_, up_self hlow _⟩
    rw [List.reverse_append, hup]
    show st.1.length :: st.2.reverse = _
    congr 1
    by_cases e : st.2 = []
    · rw [e]
      show [] = up (st.1 ++ [nd]) (-1)
      rw [up_neg (by decide)]
    · obtain ⟨p, e1, e2, e3, e4⟩ := hold e
      rw [e1, e3, up_snoc h.low nd (by omega)]
theorem Grows.close {st : St} (h : Grows st) : Grows (st.1, st.2.dropLast) := by
  refine ⟨h.low, h.first, h.stands, ?_, h.each⟩
  rcases h.opens with e | ⟨p, e1, e2⟩
  · exact .inl (by simp only; rw [e]; rfl)
  · rw [up_pos h.low] at e1
    have e3 : st.2 = (up st.1 (par st.1 p)).reverse ++ [p] := by rw [← List.reverse_reverse st.2, e1, List.reverse_cons]
    have e4 : st.2.dropLast = (up st.1 (par st.1 p)).reverse := by rw [e3, List.dropLast_concat]
    simp only
    rw [e4]
    rcases Int.lt_or_le (par st.1 p) 0 with h0 | h0
    · exact .inl (by rw [up_neg h0]; rfl)
    · obtain ⟨q, hq⟩ : ∃ q : Nat, par st.1 p = q := ⟨(par st.1 p).toNat, by omega⟩
      rw [hq]
      refine .inr ⟨q, List.reverse_reverse _, ?_⟩
      have := up_le' h.low e2
      exact up_trans h.low ((st.1.length : Int) - 1).toNat _ (by omega) e2 (by rw [up_pos h.low, hq]; exact List.mem_cons_of_mem _ (up_self h.low q))
theorem par_modify (s : List UInt8) (p : Nat) (l : List Nd) (i : Nat) : par (l.modify p (addText s)) i = par l i := by
  unfold par
  rw [List.getElem?_modify]
  cases l[i]? with
  | none => rfl
  | some x =>
    simp only [Option.map_eq_map, Option.map_some]
    split <;> rfl
theorem Grows.say {st : St} (h : Grows st) {s : List UInt8} (hs : valid s = true) : Grows (sayL st s) := by
  unfold sayL
  split
  · rename_i p hp
    have hpar := par_modify s p st.1
    have hup := up_congr hpar
    refine ⟨fun i => by show par (st.1.modify p (addText s)) i < _; rw [hpar]; exact h.low i, fun hne => ?_, fun i h0 hi => ?_, ?_, fun x hx => ?_⟩
    · show par (st.1.modify p (addText s)) 0 = -1
      rw [hpar]
      exact h.first (fun e => hne (by simp only; rw [e]; simp))
    · simp only [List.length_modify] at hi
      obtain ⟨q, e1, e2, e3, e4⟩ := h.stands i h0 hi
      exact ⟨q, by simp only; rw [hpar]; exact e1, e2, by simp only; rw [hup]; exact e3, by simp only; rw [hup]; exact e4⟩
    · rcases h.opens with e | ⟨q, e1, e2⟩
      · exact .inl e
      · exact .inr ⟨q, by simp only; rw [hup]; exact e1, by simp only [List.length_modify]; rw [hup]; exact e2⟩
    · simp only at hx
      obtain ⟨j, hj⟩ := List.mem_iff_getElem?.1 hx
      rw [List.getElem?_modify, Option.map_eq_map] at hj
      obtain ⟨y, hy, e⟩ := Option.map_eq_some_iff.1 hj
      have hey := h.each y (List.mem_of_getElem? hy)
      split at e
      · subst e
        obtain ⟨g1, g2, g3, g4, g5⟩ := hey
        exact ⟨g1, vap g2 hs, g3, g4, g5⟩
      · subst e
        exact hey
  · exact h
theorem Grows.next {st : St} (h : Grows st) (hok : OkS st) (k : Nat) {t : Tok} (ht : GoodT t) (hb : badL st (toI (k, t)) = 0) : Grows (nextL st (toI (k, t))) := by
  unfold nextL
  split
  · rename_i e
    have e1 : t.1 = 1 := by have : ((t.1 : Nat) : Int) = 1 := e; omega
    refine h.begin hok k ht e1 ?_
    unfold badL at hb
    rw [if_pos e] at hb
    exact hb
  · split
    · exact h.close
    · rename_i e1 e2
      unfold badL at hb
      rw [if_neg e1, if_neg e2] at hb
      split at hb
      · rename_i e3
        have e4 : t.1 = 3 := by have : ((t.1 : Nat) : Int) = 3 := e3; omega
        exact h.say (ht.2 e4)
      · cases hb
theorem run_grows : ∀ (us : List (Nat × Tok)) (st st' : St), (∀ u ∈ us, GoodT u.2) → OkS st → Grows st → runL st (us.map toI) = (none, st') → OkS st' ∧ Grows st'
  | [], st, st', _, h1, h2, h => by cases h; exact ⟨h1, h2⟩
  | u :: us, st, st', hg, h1, h2, h => by
    rw [List.map_cons] at h
    by_cases hb : badL st (toI u) = 0
    · rw [run_good hb] at h
      exact run_grows us _ st' (fun v hv => hg v (List.mem_cons_of_mem _ hv)) (h1.next hb) (h2.next h1 u.1 (hg u List.mem_cons_self) hb) h
    · rw [run_bad hb] at h
      cases h
theorem done_par (els : List Nd) (i : Nat) : par (doneF els 0 els) i = par els i := by
  unfold par
  rcases Nat.lt_or_ge i els.length with hi | hi
  · rw [doneF_get els 0 els i _ (List.getElem?_eq_getElem hi), List.getElem?_eq_getElem hi]
    rfl
  · rw [List.getElem?_eq_none hi, List.getElem?_eq_none (by rw [doneF_len]; exact hi)]
/-- what is parsed may be written, if no node has too many attributes -/
theorem parse_right {l : List UInt8} {ns : List Nd} {p : Int} (h : parseL l = (ns, p, 0)) (ha : ∀ x ∈ ns, x.2.2.2.2.1.length < 10) : Right ns := by
  unfold parseL at h
  split at h
  · rename_i ht
    obtain ⟨_, hv, zs, w, e⟩ := toks_ok ht
    rw [e] at h
    have hgood : ∀ u ∈ posL l.length zs, GoodT u.2 := fun u hu => by
      unfold posL at hu
      obtain ⟨z, hz, rfl⟩ := List.mem_map.1 hu
      exact walks_good w z hz
    obtain ⟨o, st, hr⟩ : ∃ o st, runL ([], []) ((posL l.length zs).map toI) = (o, st) := ⟨_, _, rfl⟩
    cases o with
    | some q =>
      have h2 := build_bad hr
      simp only at h
      rw [h2] at h
      exfalso
      have hne : ∀ (ts : List TokI) (st st' : St) (q : Int × Nat), runL st ts = (some q, st') → q.2 ≠ 0 := fun ts => by
        induction ts with
        | nil => intro st st' q e; cases e
        | cons t ts ih =>
          intro st st' q e
          by_cases hb : badL st t = 0
          · rw [run_good hb] at e; exact ih _ _ _ e
          · rw [run_bad hb] at e
            cases e
            exact hb
      have h3 := hne _ _ _ _ hr
      injection h with _ h
      injection h with _ h
      exact h3 h
    | none =>
      obtain ⟨hok, hg⟩ := run_grows _ _ st hgood OkS.nil Grows.nil hr
      simp only at h
      rw [build_end hr] at h
      unfold endL at h
      split at h
      · cases h
      · rename_i hc
        unfold finL at h
        split at h
        · injection h with _ h
          injection h with _ h
          cases h
        · injection h with h _
          subst h
          have hpar := done_par st.1
          have hup := up_congr hpar
          have hlen := doneF_len st.1 0 st.1
          refine ⟨fun e0 => ?_, by rw [hlen]; exact hok.many, by rw [hpar]; exact hg.first (fun e => hc (.inl e)), fun x hx => ?_, fun i h0 hi => ?_⟩
          · have := congrArg List.length e0
            rw [hlen, List.length_nil] at this
            exact hc (.inl (List.length_eq_zero_iff.1 this))
          · have hx10 := ha x hx
            obtain ⟨j, hj⟩ := List.mem_iff_getElem?.1 hx
            have hjl := (List.getElem?_eq_some_iff.1 hj).1
            rw [hlen] at hjl
            rw [doneF_get st.1 0 st.1 j _ (List.getElem?_eq_getElem hjl)] at hj
            cases hj
            obtain ⟨g1, g2, g3, g4, g5⟩ := hg.each _ (List.getElem_mem hjl)
            refine ⟨g1, ?_, g3, ⟨?_, g4.1, fun a haa => ⟨(g4.2 a haa).1, g5 a haa, (g4.2 a haa).2⟩⟩⟩
            · unfold doneAt
              simp only
              split
              · exact valid_some ch_nil
              · exact g2
            · have : (doneAt st.1 (0 + j) st.1[j]).2.2.2.2.1.length < 10 := hx10
              unfold doneAt at this ⊢
              simp only at this ⊢
              omega
          · rw [hlen] at hi
            obtain ⟨q, e1, e2, e3, e4⟩ := hg.stands i h0 hi
            refine ⟨q, by rw [hpar]; exact e1, e2, by rw [hup]; exact e3, ?_, by rw [hup]; exact e4⟩
            have hq : q < st.1.length := by omega
            have hk : kidOf st.1 q = true := by
              unfold kidOf
              rw [List.any_eq_true]
              refine ⟨st.1[i], List.getElem_mem hi, decide_eq_true ?_⟩
              rw [← e1, par_some (List.getElem?_eq_getElem hi)]
            rw [text_some (doneF_get st.1 0 st.1 q _ (List.getElem?_eq_getElem hq))]
            unfold doneAt
            rw [Nat.zero_add, hk]
            rfl
  · rename_i ht
    injection h with _ h
    injection h with _ h
    exact absurd h ht
end Go.Proofs.YtbkfmbkamocllaaGreatDoor.Cn
