import Derived.Test.YtfbdnaclkfmiaaaGreatDoorG16
import Derived.Test.YtfbdnaclkfmiaaaGreatDoorG18
import Derived.Test.YtfbdnaclkfmiaaaGreatDoorG09
import Derived.Test.YtfbdnaclkfmiaaaGreatDoorG28
section
/- what is reached of it -/
namespace Go.Proofs.YtfbdnaclkfmiaaaGreatDoor.Ct
open Go.Proofs.YtfbdnaclkfmiaaaGreatDoor Tx Vc
theorem flat_cons1 (c : Nat) (cs : List Nat) : flat (c :: cs) = enc c ++ flat cs := by rw [show c :: cs = [c] ++ cs from rfl, flat_append, flat_one]
theorem line_valid {t : List UInt8} {n : Int} (h : line t n = true) : valid t = true := by
  obtain ⟨cs, h1, _, _⟩ := line_chars h
  exact valid_some h1
theorem flat_len : ∀ cs : List Nat, (flat cs).length ≤ 4 * cs.length
  | [] => by simp [flat]
  | c :: cs => by
    have h1 := flat_len cs
    have h2 := (enc_len (n := c)).2
    rw [flat_cons1, List.length_append, List.length_cons]
    omega
theorem line_len {t : List UInt8} {n : Nat} (h : line t n = true) : t.length ≤ 4 * n := by
  obtain ⟨cs, h1, h2, _⟩ := line_chars h
  rw [line_some h1] at h
  have h3 := of_decide_eq_true (Bool.and_eq_true_iff.1 h).2
  have h4 := flat_len cs
  rw [← h2]
  omega

/-- a kind's name is a name -/
theorem kind_cases {n : List UInt8} (h : n ∈ namesK) : n = nFN ∨ n = nN ∨ n = nNICK ∨ n = nIMPP ∨ n = nEMAIL ∨ n = nTEL ∨ n = nNOTE ∨ n = nUID ∨ n = nCAT := by
  simpa [namesK] using h
end Go.Proofs.YtfbdnaclkfmiaaaGreatDoor.Ct
end
section
/- what is reached of it -/
namespace Go.Proofs.YtfbdnaclkfmiaaaGreatDoor
open Go.RowKit Vc Ct
/-- An append of one thing, whatever it is. -/
theorem push_gen {ops : Array Oper} {rest : List Oper} {o : Oper} {a : Act} {Q : Exit → Act → World → Prop} {S T : TypeId} {z : Value} {k bytes : Nat} (hS : Tryz.prog.underlying S = some (.slice T)) (hi : (Tryz.prog.info? T).map (fun i => (i.zero, i.size, i.bytes)) = some (some z, k, bytes)) (hzc : z.cells.size = k) (hk0 : 0 < k)
    (hgd : o.guard = none) (s x : Operand) (ho : o.op = .call { callee := .builtin .append, args := #[s, x], argTypes := #[S, S] })
    (B : Nat) (v : Value) (n : Nat) (xs ys : List Value) (cs : Array Value) (hcs : cs.toList = ys) (hyl : ys.length = k) (w0 : World) (hs : a.eval s = v) (hown : w0.ownsRow B T k v n xs) (hx : a.eval x = .slice (some ⟨w0.heap.size, 0, none⟩) 1 1) (h1 : ∀ u ∈ ys, u.oneCell' = true)
    (hb : (n + 1) * bytes ≤ 140737488355328) (hn : n ≤ 1000000000) (hB : B ≤ w0.heap.size)
    (h : ∀ v' w', w'.ownsRow B T k v' (n + 1) (xs ++ ys) → Below B w0 w' → (∀ g, g < w0.heap.size → some g ≠ v.ownBlock → w'.heap[g]? = w0.heap[g]?) → wpList Tryz.prog ops Q rest (a.put o.dst v') w') : wpList Tryz.prog ops Q (o :: rest) a (w0.alloc (.cells cs T)) := by
  obtain ⟨i0, hi, hz0, hz1, hz2⟩ := info_parts hi
  subst hcs
  refine wpList_append_own _ hgd s x S ho B T i0 z k bytes hS hi hz0 hz1 hz2 hzc hk0 v n xs hs (hown.alloc _) ⟨w0.heap.size, 0, none⟩ 1 1 cs.toList hx (by omega) ?_ h1 ?_ hb (by simp; omega) ?_
  · intro j u hj
    rw [add_at, cell_of_row _ _ _ cs _ (0, 0) (heap_alloc_new w0 _), Nat.zero_add]
    simpa using hj
  · unfold maxLen; omega
  · intro v' w' h1 hg _
    refine h v' w' h1 (((Below.refl B w0).alloc hB _).grown hg (by simp; omega) (fun j hj => (World.ownsRow.lt hown j hj).1)) (fun g hg2 hne => ?_)
    exact (hg.block g (by simp; omega) hne).trans (Below.heap_alloc w0 _ g hg2)

def conCells (c : Con) (g o : Value) : Array Value := #[.string (bts c.name), .string (bts c.family), .string (bts c.given), .string (bts c.nick), .string (bts c.jid), .string (bts c.email), .string (bts c.tel), .string (bts c.note), .string (bts c.uid), g, o]
abbrev agC (c : Con) (g o : Value) : Value := .agg (conCells c g o)
/-- Attributes, properties that can be read, each at a place of its own. -/
def SeenA (w : World) (u : Value) (l : List Att) : Prop := ∃ A cap, u = .slice A l.length cap ∧ (0 < l.length → ∃ b o : Nat, A = some ⟨b, o, none⟩ ∧ b < w.heap.size ∧ ∀ i a, l[i]? = some a → w.cell? ⟨b, o + i * 2, none⟩ = some (.string (bts a.1)) ∧ w.cell? ⟨b, o + i * 2 + 1, none⟩ = some (.string (bts a.2)))
theorem SeenA.reads {w : World} {u : Value} {l : List Att} (h : SeenA w u l) : ReadA w u l := by
  obtain ⟨A, cap, rfl, h2⟩ := h
  refine ⟨A, cap, rfl, fun h0 => ?_⟩
  obtain ⟨b, o, rfl, hl, hc⟩ := h2 h0
  refine ⟨_, rfl, hl, fun i a hi => ?_⟩
  rw [add_at]
  exact hc i a hi
theorem SeenA.below {w w' : World} {u : Value} {l : List Att} (h : SeenA w u l) (hb : Below w.heap.size w w') : SeenA w' u l := by
  obtain ⟨A, cap, rfl, h2⟩ := h
  refine ⟨A, cap, rfl, fun h0 => ?_⟩
  obtain ⟨b, o, rfl, hl, hc⟩ := h2 h0
  refine ⟨b, o, rfl, Nat.lt_of_lt_of_le hl hb.size, fun i a hi => ?_⟩
  rw [hb.cell (p := ⟨b, o + i * 2, none⟩) hl, hb.cell (p := ⟨b, o + i * 2 + 1, none⟩) hl]
  exact hc i a hi
theorem RowA.seen {w : World} {u : Value} {l : List Att} (h : RowA w u l) : SeenA w u l := by
  obtain ⟨A, cap, rfl, h2⟩ := h.cells
  refine ⟨A, cap, rfl, fun h0 => ?_⟩
  obtain ⟨g, rfl, hl, hc⟩ := h2 h0
  refine ⟨g, 0, rfl, hl, fun i a hi => ?_⟩
  rw [Nat.zero_add]
  exact hc i a hi
def SeenP (w : World) (v : Value) (ps : List Pr) : Prop := ∃ A cap, v = .slice A ps.length cap ∧ (0 < ps.length → ∃ ad : Addr, A = some ad ∧ ad.block < w.heap.size ∧ ∀ i x, ps[i]? = some x → ∃ u, AtP w (ad.add (i * 4)) x u ∧ SeenA w u x.2.2.1)
theorem SeenP.reads {w : World} {v : Value} {ps : List Pr} (h : SeenP w v ps) : ReadP w v ps := by
  obtain ⟨A, cap, rfl, h2⟩ := h
  refine ⟨A, cap, rfl, fun h0 => ?_⟩
  obtain ⟨ad, rfl, hl, hc⟩ := h2 h0
  refine ⟨ad, rfl, hl, fun i x hi => ?_⟩
  obtain ⟨u, h3, h4⟩ := hc i x hi
  exact ⟨u, h3, h4.reads⟩
theorem SeenP.below {w w' : World} {v : Value} {ps : List Pr} (h : SeenP w v ps) (hb : Below w.heap.size w w') : SeenP w' v ps := by
  obtain ⟨A, cap, rfl, h2⟩ := h
  refine ⟨A, cap, rfl, fun h0 => ?_⟩
  obtain ⟨ad, rfl, hl, hc⟩ := h2 h0
  refine ⟨ad, rfl, Nat.lt_of_lt_of_le hl hb.size, fun i x hi => ?_⟩
  obtain ⟨u, h3, h4⟩ := hc i x hi
  exact ⟨u, h3.of (hb.block _ (by rw [addBlock]; exact hl)), h4.below hb⟩
theorem SeenP.nil (w : World) : SeenP w (.slice none 0 0) [] := ⟨none, 0, rfl, fun h => absurd h (Nat.not_lt_zero _)⟩
/-- a row of properties that the call has made, whose parameters can be read -/
theorem seen_row {B : Nat} {w : World} {v : Value} {ks : List PrV} (h : w.ownsRow B 41 4 v ks.length (prv ks)) (hr : ∀ k ∈ ks, SeenA w k.2 k.1.2.2.1) : SeenP w v (ks.map (·.1)) := by
  rcases h.2 with ⟨rfl, h0⟩ | ⟨g, cap, cur, rfl, hg, hh, _⟩
  · exact ⟨none, 0, by rw [List.length_map, h0], fun h => by rw [List.length_map] at h; omega⟩
  · refine ⟨_, cap, by rw [List.length_map], fun _ => ⟨_, rfl, lt_of_block hh, fun i x hi => ?_⟩⟩
    rw [List.getElem?_map] at hi
    obtain ⟨k, hk, rfl⟩ := Option.map_eq_some_iff.1 hi
    have hc : ∀ j v, j < 4 → (encP k)[j]? = some v → w.cell? ⟨g, i * 4 + j, none⟩ = some v := fun j v hj hv => by
      have := h.cells (g := g) rfl (i * 4 + j) v (by rw [prv_get hk hj]; exact hv)
      rw [add_at, Nat.zero_add] at this
      exact this
    refine ⟨k.2, ?_, hr k (List.mem_of_getElem? hk)⟩
    rw [add_at, Nat.zero_add]
    exact ⟨hc 0 _ (by decide) rfl, hc 1 _ (by decide) rfl, hc 2 _ (by decide) rfl, hc 3 _ (by decide) rfl⟩
theorem OwnP.seen {B : Nat} {w : World} {v : Value} {ps : List Pr} (h : OwnP B w v ps) : SeenP w v ps := by
  obtain ⟨ks, rfl, h2, h3⟩ := h
  exact seen_row h2 fun k hk => (h3 k hk).seen
/-- A contact that can be read. -/
def SeenC (w : World) (v : Value) (c : Con) : Prop := ∃ g o, v = agC c g o ∧ ReadT w.heap.size w g (sts c.groups) ∧ SeenP w o c.other
theorem ReadT.upon {w w' : World} {v : Value} {x : List ByteArray} (h : ReadT w.heap.size w v x) (hb : Below w.heap.size w w') : ReadT w'.heap.size w' v x := (h.below hb).more hb.size
theorem SeenC.below {w w' : World} {v : Value} {c : Con} (h : SeenC w v c) (hb : Below w.heap.size w w') : SeenC w' v c := by
  obtain ⟨g, o, rfl, h1, h2⟩ := h
  exact ⟨g, o, rfl, h1.upon hb, h2.below hb⟩
theorem seen_none (w : World) : SeenC w (agC noneC (.slice none 0 0) (.slice none 0 0)) noneC := ⟨_, _, rfl, ReadT.nil _ _ _, SeenP.nil _⟩
end Go.Proofs.YtfbdnaclkfmiaaaGreatDoor
end
section
/- what is reached of it -/
namespace Go.Proofs.YtfbdnaclkfmiaaaGreatDoor.Ct
open Go.Proofs.YtfbdnaclkfmiaaaGreatDoor Tx Vc
theorem line_more {t : List UInt8} {n m : Int} (h : line t n = true) (hm : n ≤ m) : line t m = true := by
  obtain ⟨cs, h1, _, _⟩ := line_chars h
  rw [line_some h1] at h ⊢
  obtain ⟨h2, h3⟩ := Bool.and_eq_true_iff.1 h
  have h3 := of_decide_eq_true h3
  exact Bool.and_eq_true_iff.2 ⟨h2, decide_eq_true (by omega)⟩
theorem line_nil (n : Int) (h : 0 ≤ n) : line [] n = true := by
  have : ch [] = some [] := ch_nil
  rw [line_some this, low_nil]
  simp [h]
theorem none_ok : (writeV [[]]).2 = 0 := by decide +kernel
/-- right, part by part -/
theorem right_of {c : Con} (h1 : c.name ≠ []) (h2 : textsB c = true) (h3 : noteB c.note = true) (h4 : bareB c.jid = true) (h5 : rightG c.groups = true) (h6 : (writeV [c.other]).2 = 0) : rightC c = true := by
  unfold rightC
  simp only [Bool.and_eq_true, decide_eq_true_eq]
  exact ⟨⟨⟨⟨⟨h1, h2⟩, h3⟩, h4⟩, h5⟩, h6⟩
theorem not_right {c : Con} (h : c.name = [] ∨ textsB c = false ∨ noteB c.note = false ∨ bareB c.jid = false ∨ rightG c.groups = false ∨ (writeV [c.other]).2 ≠ 0) : rightC c = false := by
  cases hr : rightC c with
  | false => rfl
  | true =>
    obtain ⟨h1, h2, h3, h4, h5, h6⟩ := right_parts hr
    rcases h with h | h | h | h | h | h
    · exact absurd h h1
    · rw [h2] at h; cases h
    · rw [h3] at h; cases h
    · rw [h4] at h; cases h
    · rw [h5] at h; cases h
    · exact absurd h6 h
def pFN : Pr := ([], nFN, [], [110])
theorem take_fn (c : Con) : takeC c pFN = (0, { c with name := [110] }) := by
  unfold takeC
  rw [if_neg (show pFN.2.1 ≠ nN by decide), if_neg (show pFN.2.1 ≠ nCAT by decide)]
  rw [show plain pFN.2.2.2 = some [110] by decide]
  rfl
/-- two known properties of different kinds -/
theorem two_of {p q : Pr} {c1 c2 : Con} (hp : knownB p = true) (hq : knownB q = true) (hne : q.2.1 ≠ p.2.1) (h1 : takeC noneC p = (0, c1)) (h2 : takeC c1 q = (0, c2)) (hr : rightC c2 = true) : ofL [p, q] = (c2, 0) := by
  have k1 : knownS [] p = true := by unfold knownS; rw [hp]; rfl
  have k2 : knownS ([] ++ [p.2.1]) q = true := by
    unfold knownS
    rw [hq, List.nil_append]
    simp only [List.contains_eq_mem, List.mem_singleton]
    rw [decide_eq_false hne]
    rfl
  have hr2 : runK (noneC, []) ([p] ++ [q]) = (0, (c2, [] ++ [p.2.1] ++ [q.2.1])) := by
    rw [run_append _ _ _ _ (run_known k1 h1), run_known k2 h2]
  unfold ofL
  rw [show [p, q] = [p] ++ [q] from rfl]
  simp only [hr2]
  rw [if_pos trivial, if_pos hr]
theorem groups_ok {l : List (List UInt8)} {n : Int} (hl : l.length ≤ 8) (h : ∀ g ∈ l, line g n = true) (hn : n ≤ 100) : rightG (groupsL l) = true := by
  obtain ⟨h1, h2⟩ := groups_rising l
  unfold rightG
  simp only [Bool.and_eq_true, decide_eq_true_eq, List.all_eq_true]
  exact ⟨⟨Nat.le_trans (groups_len l) hl, fun g hg => ⟨((h2 g).1 hg).2, line_more (h g ((h2 g).1 hg).1) hn⟩⟩, h1⟩
theorem small_right {a b : List UInt8} {g : List (List UInt8)} (ha : line a 100 = true) (hb : line b 100 = true) (hg : rightG g = true) : rightC { noneC with name := [110], family := a, given := b, groups := g } = true := by
  refine right_of (by simp) ?_ (show noteB [] = true by decide +kernel) (show bareB [] = true by decide +kernel) hg none_ok
  unfold textsB
  simp only [ha, hb]
  decide +kernel
/-- groups, however they stand -/
theorem groups_of {l : List (List UInt8)} (hl : l.length ≤ 6) (h : ∀ g ∈ l, line g 20 = true) : ofL [([], nCAT, [], sepd 44 (l.map val)), pFN] = ({ noneC with name := [110], groups := groupsL l }, 0) := by
  have hm : ∃ m, manyL 44 (sepd 44 (l.map val)) = some m ∧ groupsL m = groupsL l := by
    by_cases hn : l = []
    · subst hn
      exact ⟨[[]], rfl, rfl⟩
    · exact ⟨l, many_back (.inl rfl) hn (fun g hg => line_no13 (h g hg)), rfl⟩
  obtain ⟨m, h1, h2⟩ := hm
  have ht : takeC noneC ([], nCAT, [], sepd 44 (l.map val)) = (0, { noneC with groups := groupsL l }) := by
    unfold takeC
    rw [if_neg (show nCAT ≠ nN by decide), if_pos rfl]
    simp only [h1, h2]
  refine two_of (known_cat _) (by decide) (show nFN ≠ nCAT by decide) ht (take_fn _) ?_
  exact small_right (a := []) (b := []) (line_nil _ (by decide)) (line_nil _ (by decide)) (groups_ok (by omega) h (by decide))
where
  known_cat (v : List UInt8) : knownB ([], nCAT, [], v) = true := rfl
/-- so many letters, one by one -/
def lettersL (n : Nat) : List (List UInt8) := (List.range n).map fun i => [UInt8.ofNat (97 + i)]
theorem letters_of : ∀ n : Nat, n < 5 → ofL [pFN, ([], nCAT, [], sepd 44 (lettersL (6 + n)))] = if n ≤ 2 then ({ noneC with name := [110], groups := lettersL (6 + n) }, 0) else (noneC, 12) := by
  intro n hn
  have hc : n = 0 ∨ n = 1 ∨ n = 2 ∨ n = 3 ∨ n = 4 := by omega
  have hk : ∀ v, knownB ([], nCAT, [], v) = true := fun v => rfl
  have ht : ∀ n, n < 5 → takeC { noneC with name := [110] } ([], nCAT, [], sepd 44 (lettersL (6 + n))) = (0, { noneC with name := [110], groups := lettersL (6 + n) }) := fun n hn => by
    have hm : manyL 44 (sepd 44 (lettersL (6 + n))) = some (lettersL (6 + n)) ∧ groupsL (lettersL (6 + n)) = lettersL (6 + n) := by
      have hc : n = 0 ∨ n = 1 ∨ n = 2 ∨ n = 3 ∨ n = 4 := by omega
      rcases hc with rfl | rfl | rfl | rfl | rfl <;> exact ⟨by decide +kernel, by decide +kernel⟩
    unfold takeC
    rw [if_neg (show nCAT ≠ nN by decide), if_pos rfl]
    simp only [hm.1, hm.2]
  by_cases h2 : n ≤ 2
  · rw [if_pos h2]
    refine two_of (by decide) (hk _) (show nCAT ≠ nFN by decide) (take_fn _) (ht n hn) ?_
    refine small_right (a := []) (b := []) (line_nil _ (by decide)) (line_nil _ (by decide)) ?_
    rcases hc with rfl | rfl | rfl | rfl | rfl
    · decide +kernel
    · decide +kernel
    · decide +kernel
    · omega
    · omega
  · rw [if_neg h2]
    have hr : rightC { noneC with name := [110], groups := lettersL (6 + n) } = false := not_right (.inr (.inr (.inr (.inr (.inl (by
      rcases hc with rfl | rfl | rfl | rfl | rfl
      · omega
      · omega
      · omega
      · decide +kernel
      · decide +kernel))))))
    have k1 : knownS [] pFN = true := by decide
    have k2 : knownS ([] ++ [pFN.2.1]) ([], nCAT, [], sepd 44 (lettersL (6 + n))) = true := by
      unfold knownS
      rw [hk]
      rfl
    have hr2 : runK (noneC, []) ([pFN] ++ [([], nCAT, [], sepd 44 (lettersL (6 + n)))]) = (0, ({ noneC with name := [110], groups := lettersL (6 + n) }, [] ++ [pFN.2.1] ++ [nCAT])) := by
      rw [run_append _ _ _ _ (run_known k1 (take_fn _)), run_known k2 (ht n hn)]
    unfold ofL
    rw [show [pFN, ([], nCAT, [], sepd 44 (lettersL (6 + n)))] = [pFN] ++ [([], nCAT, [], sepd 44 (lettersL (6 + n)))] from rfl]
    simp only [hr2]
    rw [if_pos trivial, hr]
    rfl
end Go.Proofs.YtfbdnaclkfmiaaaGreatDoor.Ct
end
