/-
  The law TreeSpaces.
-/
import Derived.Test.YtpomcamkkcggmaaGreatDoorTrL4
import Derived.Test.YtpomcamkkcggmaaGreatDoorReadD
namespace Go.Proofs.YtpomcamkkcggmaaGreatDoor
open Go.RowKit Tk Tr

def tbl (k : Nat) : List UInt8 := if k = 1 then [117] else if k = 2 then [118] else []
def attK (k : Nat) : List Att := if k = 0 then [] else [(xmlnsL, tbl k), ([98], [49])]
def tag (k : Nat) : List UInt8 := if k = 0 then [60, 97, 62] else [60, 97] ++ [32, 120, 109, 108, 110, 115, 61, 39] ++ tbl k ++ [39, 32, 98, 61, 39, 49, 39] ++ [62]
def tokOf (k : Nat) : Tok := (1, [97], [], attK k, false)
def tokCl : Tok := (2, [97], [], [], false)
def shut : List UInt8 := [60, 47, 97, 62]
def tags (ks : List Nat) : List UInt8 := ks.flatMap tag
def shuts : Nat → List UInt8
  | 0 => []
  | n + 1 => shut ++ shuts n
def spN (sp : List UInt8) (k : Nat) : List UInt8 := if k = 0 then sp else tbl k
def spsF (sp : List UInt8) : List Nat → List (List UInt8)
  | [] => []
  | k :: ks => spN sp k :: spsF (spN sp k) ks
def spEnd (ks : List Nat) : List UInt8 := ks.foldl spN []
theorem tok_tag0 (k : Nat) (hk : k < 4) : tokL (tag k) = some (tokOf k, []) := by
  rcases (show k = 0 ∨ k = 1 ∨ k = 2 ∨ k = 3 by omega) with rfl | rfl | rfl | rfl <;> decide +kernel
theorem tok_tag (k : Nat) (hk : k < 4) (r : List UInt8) : tokL (tag k ++ r) = some (tokOf k, r) := by
  obtain ⟨c, p, h1, _, _, _, _, h2⟩ := tok_piece (tok_tag0 k hk)
  rw [List.append_nil] at h1
  rw [h1]
  exact h2 r (fun h => by cases h)
theorem tok_shut (r : List UInt8) : tokL (shut ++ r) = some (tokCl, r) := rfl
theorem valid_tag (k : Nat) (hk : k < 4) : Tx.valid (tag k) = true := by
  rcases (show k = 0 ∨ k = 1 ∨ k = 2 ∨ k = 3 by omega) with rfl | rfl | rfl | rfl <;> decide +kernel
theorem valid_tags : ∀ ks : List Nat, (∀ k ∈ ks, k < 4) → Tx.valid (tags ks) = true
  | [], _ => by decide +kernel
  | k :: ks, h => (Tx.valid_append (valid_tag k (h k List.mem_cons_self)) (valid_tags ks (fun j hj => h j (List.mem_cons_of_mem _ hj)))).1
theorem valid_shuts : ∀ n, Tx.valid (shuts n) = true
  | 0 => by decide +kernel
  | n + 1 => (Tx.valid_append (by decide +kernel) (valid_shuts n)).1
theorem tag_len (k : Nat) (hk : k < 4) : (tag k).length ≤ 20 := by
  rcases (show k = 0 ∨ k = 1 ∨ k = 2 ∨ k = 3 by omega) with rfl | rfl | rfl | rfl <;> decide
theorem tags_len : ∀ ks : List Nat, (∀ k ∈ ks, k < 4) → (tags ks).length ≤ 20 * ks.length
  | [], _ => by simp [tags]
  | k :: ks, h => by
    have h1 := tag_len k (h k List.mem_cons_self)
    have h2 := tags_len ks (fun j hj => h j (List.mem_cons_of_mem _ hj))
    unfold tags at h2 ⊢
    rw [List.flatMap_cons, List.length_append, List.length_cons]
    omega
theorem shuts_len : ∀ n, (shuts n).length = 4 * n
  | 0 => rfl
  | n + 1 => by rw [shuts, List.length_append, shuts_len n]; show 4 + 4 * n = _; omega
/-- How what opens is told. -/
theorem told_tags (n : Nat) : ∀ (ks : List Nat) (xs : List TokA) (r : List UInt8), (∀ k ∈ ks, k < 4) → ∃ os : List (Nat × Nat), os.map (·.2) = ks ∧ told n (many (nextT n) xs (tags ks ++ r)) = told n (many (nextT n) (xs ++ os.map (fun p => (p.1, tokOf p.2))) r)
  | [], xs, r, _ => ⟨[], rfl, by rw [List.map_nil, List.append_nil]; rfl⟩
  | k :: ks, xs, r, h => by
    have h1 := tok_tag k (h k List.mem_cons_self) (tags ks ++ r)
    obtain ⟨os, h2, h3⟩ := told_tags n ks (xs ++ [(n - (tag k ++ (tags ks ++ r)).length, tokOf k)]) r (fun j hj => h j (List.mem_cons_of_mem _ hj))
    refine ⟨(n - (tag k ++ (tags ks ++ r)).length, k) :: os, by rw [List.map_cons, h2], ?_⟩
    show told n (many (nextT n) xs (tag k ++ tags ks ++ r)) = _
    rw [List.append_assoc, told_step h1, h3, List.append_assoc]
    rfl
theorem told_shuts (n : Nat) : ∀ (m : Nat) (xs : List TokA), xs.find? great = none → ∃ cs : List Nat, cs.length = m ∧ told n (many (nextT n) xs (shuts m)) = (xs ++ cs.map (fun a => (a, tokCl)), 0, 0)
  | 0, xs, h => ⟨[], rfl, by show told n (many (nextT n) xs []) = _; rw [told_end h]; simp⟩
  | m + 1, xs, h => by
    have h1 := tok_shut (shuts m)
    obtain ⟨cs, h2, h3⟩ := told_shuts n m (xs ++ [(n - (shut ++ shuts m).length, tokCl)]) (find_snoc h (by decide))
    refine ⟨(n - (shut ++ shuts m).length) :: cs, by rw [List.length_cons, h2], ?_⟩
    show told n (many (nextT n) xs (shut ++ shuts m)) = _
    rw [told_step h1, h3, List.append_assoc]
    rfl
theorem few_attrs (k : Nat) : (attK k).length ≤ 2 := by
  unfold attK
  split <;> simp
theorem find_opens : ∀ os : List (Nat × Nat), (os.map (fun p : Nat × Nat => ((p.1, tokOf p.2) : TokA))).find? great = none := by
  intro os
  rw [List.find?_eq_none]
  intro t ht
  obtain ⟨p, _, rfl⟩ := List.mem_map.1 ht
  have h := few_attrs p.2
  show ¬ decide (10 < (attK p.2).length) = true
  rw [decide_eq_true_eq]
  omega
theorem spaces_told (ks : List Nat) (hk : ∀ k ∈ ks, k < 4) (hl : ks.length ≤ 10) : ∃ (os : List (Nat × Nat)) (cs : List Nat), os.map (·.2) = ks ∧ cs.length = ks.length ∧ tokensL (tags ks ++ shuts ks.length) = (os.map (fun p => (p.1, tokOf p.2)) ++ cs.map (fun a => (a, tokCl)), 0, 0) := by
  have hlen : (tags ks ++ shuts ks.length).length ≤ 20000 := by
    have := tags_len ks hk
    rw [List.length_append, shuts_len]
    omega
  have hov : over headL (tags ks ++ shuts ks.length) = tags ks ++ shuts ks.length := by
    unfold over
    rw [if_neg]
    cases ks with
    | nil => simp [tags, shuts, headL]
    | cons k ks =>
      show ¬ headL.isPrefixOf (tag k ++ tags ks ++ _) = true
      unfold tag
      split <;> simp [headL, List.isPrefixOf]
  obtain ⟨os, h1, h2⟩ := told_tags (tags ks ++ shuts ks.length).length ks [] (shuts ks.length) hk
  obtain ⟨cs, h3, h4⟩ := told_shuts (tags ks ++ shuts ks.length).length ks.length (os.map (fun p => (p.1, tokOf p.2))) (find_opens os)
  refine ⟨os, cs, h1, h3, ?_⟩
  unfold tokensL
  rw [if_neg (by omega), if_pos (Tx.valid_append (valid_tags ks hk) (valid_shuts _)).1]
  unfold toksL
  rw [hov, h2, List.nil_append, h4]
/-- The nodes of what opens. -/
def goO (els : List Nd) (sp : List UInt8) : List (Nat × Nat) → List Nd
  | [] => els
  | (a, k) :: l => goO (els ++ [((els.length : Int) - 1, (a : Int), [97], spN sp k, others (attK k), [])]) (spN sp k) l
theorem space_k (st : St) (k : Nat) : spaceOf st (attK k) = spN (innerSpace st) k := by
  unfold spaceOf attK spN
  by_cases h : k = 0
  · rw [if_pos h, if_pos h]; rfl
  · rw [if_neg h, if_neg h]
    have : [(xmlnsL, tbl k), ([98], [49])].find? isX = some (xmlnsL, tbl k) := by
      rw [List.find?_cons]
      have : isX (xmlnsL, tbl k) = true := by unfold isX; simp
      rw [this]
    rw [this]
theorem inner_last {els : List Nd} {x : Nd} : innerSpace (els ++ [x], List.range (els.length + 1)) = x.2.2.2.1 := by
  unfold innerSpace
  rw [range_last]
  simp
theorem run_spaces (rest : List TokI) : ∀ (l : List (Nat × Nat)) (els : List Nd) (sp : List UInt8), els.length + l.length ≤ 10 → innerSpace (els, List.range els.length) = sp →
    runL (els, List.range els.length) (l.map (fun p => toI (p.1, tokOf p.2)) ++ rest) = runL (goO els sp l, List.range (els.length + l.length)) rest
  | [], els, sp, _, _ => rfl
  | (a, k) :: l, els, sp, hl, hs => by
    simp only [List.length_cons] at hl
    have hb : badL (els, List.range els.length) (toI (a, tokOf k)) = 0 := by
      show badOpen _ = 0
      unfold badOpen
      simp only [List.length_range]
      rw [if_neg, if_neg (by omega), if_neg (by omega)]
      rintro ⟨h1, h2⟩
      apply h1
      have := congrArg List.length h2
      simp only [List.length_range, List.length_nil] at this
      exact List.eq_nil_of_length_eq_zero this
    have hn : nextL (els, List.range els.length) (toI (a, tokOf k)) = (els ++ [((els.length : Int) - 1, (a : Int), [97], spN sp k, others (attK k), [])], List.range (els.length + 1)) := by
      show beginL _ _ = _
      unfold beginL nodeOf
      simp only
      rw [top_range, List.range_succ]
      show (els ++ [((els.length : Int) - 1, (a : Int), [97], spaceOf _ (attK k), others (attK k), [])], List.range els.length ++ [els.length]) = _
      rw [space_k, hs]
    show runL _ (toI (a, tokOf k) :: (l.map (fun p => toI (p.1, tokOf p.2)) ++ rest)) = _
    rw [run_good hb, hn]
    have ih := run_spaces rest l (els ++ [((els.length : Int) - 1, (a : Int), [97], spN sp k, others (attK k), [])]) (spN sp k) (by simp only [List.length_append, List.length_singleton]; omega) (by
      simp only [List.length_append, List.length_singleton]
      exact inner_last)
    simp only [List.length_append, List.length_singleton] at ih
    rw [ih, goO]
    congr 2
    simp only [List.length_cons]
    congr 1
    omega
theorem run_shuts (els : List Nd) (hn : ∀ x ∈ els, x.2.2.1 = [97]) : ∀ (cs : List Nat), cs.length ≤ els.length → runL (els, List.range cs.length) (cs.map (fun a => toI (a, tokCl))) = (none, (els, []))
  | [], _ => rfl
  | a :: cs, h => by
    simp only [List.length_cons] at h
    have hx : els[cs.length]? = some els[cs.length] := List.getElem?_eq_getElem (by omega)
    have hb : badL (els, List.range (cs.length + 1)) (toI (a, tokCl)) = 0 := by
      show (if sameName _ [97] then 0 else 6) = 0
      rw [same_name (p := cs.length) (x := els[cs.length]) (by simp only; rw [range_last]; simp) hx, hn _ (List.mem_of_getElem? hx)]
      rfl
    have hd : nextL (els, List.range (cs.length + 1)) (toI (a, tokCl)) = (els, List.range cs.length) := by
      show (els, (List.range (cs.length + 1)).dropLast) = _
      rw [List.range_succ, List.dropLast_concat]
    show runL _ (toI (a, tokCl) :: cs.map (fun a => toI (a, tokCl))) = _
    rw [List.length_cons, run_good hb, hd]
    exact run_shuts els hn cs (by omega)
theorem goO_len : ∀ (l : List (Nat × Nat)) (els : List Nd) (sp : List UInt8), (goO els sp l).length = els.length + l.length
  | [], els, sp => rfl
  | (a, k) :: l, els, sp => by
    rw [goO, goO_len l, List.length_append, List.length_singleton, List.length_cons]
    omega
theorem goO_all {P : Nd → Prop} (hP : ∀ (i : Int) (a : Int) (sp : List UInt8) (k : Nat), P (i, a, [97], sp, others (attK k), [])) : ∀ (l : List (Nat × Nat)) (els : List Nd) (sp : List UInt8), (∀ x ∈ els, P x) → ∀ x ∈ goO els sp l, P x
  | [], els, sp, h => h
  | (a, k) :: l, els, sp, h => goO_all hP l _ _ (fun x hx => by
      rcases List.mem_append.1 hx with hx | hx
      · exact h x hx
      · rw [List.mem_singleton] at hx
        subst hx
        exact hP _ _ _ _)
theorem goO_spaces : ∀ (l : List (Nat × Nat)) (els : List Nd) (sp : List UInt8), (goO els sp l).map (fun x => x.2.2.2.1) = els.map (fun x => x.2.2.2.1) ++ spsF sp (l.map (·.2))
  | [], els, sp => by simp [goO, spsF]
  | (a, k) :: l, els, sp => by
    rw [goO, goO_spaces l]
    simp [spsF]
theorem others_k (k : Nat) : (others (attK k)).length ≤ 1 ∧ attrOf (others (attK k)) xmlnsL = ([], false) := by
  unfold attK
  split
  · exact ⟨by decide, by decide⟩
  · have h1 : isX (xmlnsL, tbl k) = true := by unfold isX; simp
    have h2 : isX ([98], [49]) = false := by decide
    have : others [(xmlnsL, tbl k), ([98], [49])] = [([98], [49])] := by
      unfold others
      rw [List.filter_cons, List.filter_cons, h1, h2]
      rfl
    rw [this]
    exact ⟨by decide, by decide⟩
/-- What the law's text is parsed to. -/
theorem spaces_parse (ks : List Nat) (hk : ∀ k ∈ ks, k < 4) (hl : ks.length ≤ 10) (h0 : 0 < ks.length) : ∃ ns : List Nd, parseL (tags ks ++ shuts ks.length) = (ns, 0, 0) ∧ ns.length = ks.length ∧ ns.map (fun x => x.2.2.2.1) = spsF [] ks ∧ ∀ x ∈ ns, x.2.2.2.2.1.length ≤ 1 ∧ attrOf x.2.2.2.2.1 xmlnsL = ([], false) := by
  obtain ⟨os, cs, h1, h2, h3⟩ := spaces_told ks hk hl
  have hol : os.length = ks.length := by rw [← h1, List.length_map]
  have hgl := goO_len os [] []
  rw [List.length_nil, Nat.zero_add, hol] at hgl
  have hnm := goO_all (P := fun x => x.2.2.1 = [97]) (fun _ _ _ _ => rfl) os [] [] (fun x hx => by cases hx)
  have htx := goO_all (P := fun x => x.2.2.2.2.2 = []) (fun _ _ _ _ => rfl) os [] [] (fun x hx => by cases hx)
  have hat := goO_all (P := fun x => x.2.2.2.2.1.length ≤ 1 ∧ attrOf x.2.2.2.2.1 xmlnsL = ([], false)) (fun _ _ _ k => others_k k) os [] [] (fun x hx => by cases hx)
  have hsp := goO_spaces os [] []
  rw [List.map_nil, List.nil_append, h1] at hsp
  refine ⟨goO [] [] os, ?_, hgl, hsp, hat⟩
  rw [parse_good (by rw [h3]), h3]
  simp only
  have hrun : runL ([], []) ((os.map (fun p => ((p.1, tokOf p.2) : TokA)) ++ cs.map (fun a => ((a, tokCl) : TokA))).map toI) = (none, (goO [] [] os, [])) := by
    rw [List.map_append, List.map_map, List.map_map]
    have := run_spaces (cs.map (fun a => toI (a, tokCl))) os [] [] (by rw [hol]; simp; exact hl) rfl
    rw [List.length_nil, Nat.zero_add] at this
    refine Eq.trans this ?_
    rw [hol, ← h2]
    exact run_shuts _ hnm cs (by rw [hgl, h2]; exact Nat.le_refl _)
  rw [build_end hrun]
  unfold endL
  rw [if_neg, fin_right]
  · simp only
    rw [done_same _ _ _ htx]
  · intro i hi
    have : (goO [] [] os)[i]? = some (goO [] [] os)[i] := List.getElem?_eq_getElem hi
    rw [wrong_eq this, htx _ (List.mem_of_getElem? this)]
    simp [blankL]
  · rintro (h | h)
    · have := congrArg List.length h
      rw [hgl, List.length_nil] at this
      omega
    · exact h rfl
theorem spaces_none : parseL ([] : List UInt8) = ([], 0, 6) := by decide +kernel
theorem tags_snoc (ks : List Nat) (k : Nat) : tags (ks ++ [k]) = tags ks ++ tag k := by simp [tags]
theorem spsF_snoc : ∀ (ks : List Nat) (sp : List UInt8) (k : Nat), spsF sp (ks ++ [k]) = spsF sp ks ++ [spN (ks.foldl spN sp) k]
  | [], sp, k => rfl
  | j :: ks, sp, k => by rw [List.cons_append, spsF, spsF_snoc ks, spsF]; rfl
theorem spsF_len : ∀ (ks : List Nat) (sp : List UInt8), (spsF sp ks).length = ks.length
  | [], _ => rfl
  | k :: ks, sp => by rw [spsF, List.length_cons, spsF_len ks, List.length_cons]
theorem spEnd_snoc (ks : List Nat) (k : Nat) : spEnd (ks ++ [k]) = spN (spEnd ks) k := by simp [spEnd]
theorem tbl_len (k : Nat) : (tbl k).length ≤ 1 := by unfold tbl; split; simp; split <;> simp
theorem spF_len : ∀ (ks : List Nat) (sp : List UInt8), sp.length ≤ 1 → (ks.foldl spN sp).length ≤ 1
  | [], _, h => h
  | k :: ks, sp, h => spF_len ks (spN sp k) (by
      unfold spN
      split
      · exact h
      · exact tbl_len k)
theorem spEnd_len (ks : List Nat) : (spEnd ks).length ≤ 1 := spF_len ks [] (by simp)
theorem push_txts {ops : Array Oper} {rest : List Oper} {o : Oper} {a : Act} {Q : Exit → Act → World → Prop} (hgd : o.guard = none) (s x : Operand) (ho : o.op = .call { callee := .builtin .append, args := #[s, x], argTypes := #[42, 42] })
    (B : Nat) (v : Value) (l : List (List UInt8)) (c : List UInt8) (sc : ByteArray) (hc : bts c = sc) (w0 : World) (hs : a.eval s = v) (hown : OwnT B w0 v l) (hx : a.eval x = .slice (some ⟨w0.heap.size, 0, none⟩) 1 1) (hn : l.length ≤ 1000000000) (hB : B ≤ w0.heap.size)
    (h : ∀ v' w', OwnT B w' v' (l ++ [c]) → Below B w0 w' → wpList Tryz.prog ops Q rest (a.put o.dst v') w') : wpList Tryz.prog ops Q (o :: rest) a (w0.alloc (.cells #[.string sc] 9)) := by
  subst hc
  obtain ⟨i0, hi, hz0, hz1, hz2⟩ := info_parts infoStr
  have hown' : w0.ownsRow B 9 1 v l.length (sts l) := hown
  refine wpList_append_own _ hgd s x 42 ho B 9 i0 _ 1 16 Tryz.underlying42 hi hz0 hz1 hz2 rfl (by decide) v l.length (sts l) hs (hown'.alloc _) ⟨w0.heap.size, 0, none⟩ 1 1 [.string (bts c)] hx rfl ?_ ?_ ?_ (by omega) (by simp; omega) ?_
  · intro j u hj
    rw [add_at, cell_of_row _ _ _ #[_] _ (0, 0) (heap_alloc_new w0 _), Nat.zero_add]
    simpa using hj
  · intro u hu
    simp at hu
    subst hu
    rfl
  · unfold maxLen; omega
  · intro v' w' hown2 hg _
    refine h v' w' ?_ (((Below.refl B w0).alloc hB _).grown hg (by simp; omega) (fun j hj => (World.ownsRow.lt hown' j hj).1))
    unfold OwnT
    rw [sts_snoc, List.length_append, List.length_singleton]
    exact hown2
theorem shuts_front : ∀ n, shuts (n + 1) = shut ++ shuts n := fun _ => rfl
set_option maxHeartbeats 8000000 in
set_option maxRecDepth 100000 in
theorem treeSpaces_any (v : Value) (n : Nat) (w : World) (hT : Tabs w) (hE : ErrS w) (hv : ReadsZ w v n) :
    Calls Tryz.prog 5 #[v] w (Holds w) := by
  have HTab := Lib.hid (fun (W : World) (h : Below w.heap.size w W) => And.intro (hT.below h) (hE.below h))
  have HA := Lib.hid (fun (W : World) (h : Below w.heap.size w W) => awakeT_any W (HTab.out W h).1 (HTab.out W h).2)
  have HPa := Lib.hid (fun (s : ByteArray) (W : World) (h : Below w.heap.size w W) (h2 : s.size ≤ 100000) => parse_any s W (HTab.out W h).1 (HTab.out W h).2 h2)
  obtain ⟨A, cap, rfl, hc⟩ := hv
  have HC := Lib.hid hc
  clear hT hE hc
  go_enter Tryz.func5, Tryz.ntmps5
  go_wp2_with fail
  go_loopw [3, 4, 5, 6, 7] (fun sv ev wv pv iv wr => ∃ (i : Nat) (ks : List Nat) (sb eb pb : ByteArray) (tv : Value), i ≤ n ∧ i ≤ 10 ∧ iv = .int .i64 i ∧ sv = .string sb ∧ ev = .string eb ∧ pv = .string pb ∧ wv = tv ∧
    Hid (ks.length = i ∧ (∀ k ∈ ks, k < 4) ∧ sb.data.toList = tags ks ∧ eb.data.toList = shuts i ∧ bts (spEnd ks) = pb) ∧ Hid (OwnT w.heap.size wr tv (spsF [] ks)) ∧ Hid (Below w.heap.size w wr)) (fun _ _ _ _ iv _ => n - (intOf iv).toNat)
  case atStart => exact ⟨0, [], _, _, _, _, Nat.zero_le _, by omega, rfl, rfl, rfl, rfl, rfl, ⟨rfl, (fun k hk => by cases hk), rfl, rfl, rfl⟩, OwnT.nil _ _, Below.refl _ _⟩
  case round =>
    obtain ⟨i, ks, sb, eb, pb, tv, hin, hi10, rfl, rfl, rfl, rfl, htv, hks, ho, hb⟩ := hrel
    have htv2 := htv.symm
    clear htv
    subst htv2
    obtain ⟨TA, tcap, htf⟩ := ho.out.slice
    subst htf
    have hsl : (spsF [] ks).length = i := by rw [spsF_len]; exact hks.out.1
    have HSL := Lib.hid hsl
    rw [hsl] at ho ⊢
    have hsb : sb.size ≤ 200 := by
      have h1 := tags_len ks hks.out.2.1
      rw [Lib.size_eq, hks.out.2.2.1]
      have h2 := hks.out.1
      omega
    have heb : eb.size ≤ 40 := by
      rw [Lib.size_eq, hks.out.2.2.2.1, shuts_len]
      omega
    have hpb : pb.size ≤ 1 := by
      rw [← hks.out.2.2.2.2, Lib.size_eq]
      exact spEnd_len ks
    clear hsl
    by_cases hlt : i < n ∧ i < 10
    · obtain ⟨hlt, hlt10⟩ := hlt
      have g10 : decide ((i : Int) < 10) = true := decide_eq_true (by omega)
      have gn : decide ((i : Int) < (n : Int)) = true := decide_eq_true (by omega)
      obtain ⟨ad, rfl, had, hcz⟩ := HC.out (by omega)
      obtain ⟨z, hz⟩ := hcz i hlt
      rw [← hb.out.cell (p := ad.add i) (by rw [addr_block]; exact had)] at hz
      obtain ⟨k, hk, hk4⟩ := uintMod z 4 (by omega) (by omega)
      have hk4' : k < 4 := by omega
      have HK4 := Lib.hid hk4'
      have hszb := hb.out.size
      have hll : Hid ((spsF [] ks).length ≤ 1000000000) := by unfold Hid; rw [HSL.out]; omega
      have HF : Hid (∀ k, k < 4 → ∀ (sb' eb' pb' : ByteArray), sb'.data.toList = tags ks ++ tag k → eb'.data.toList = shut ++ shuts i → bts (spN (spEnd ks) k) = pb' →
        ((ks ++ [k]).length = i + 1 ∧ (∀ j ∈ ks ++ [k], j < 4) ∧ sb'.data.toList = tags (ks ++ [k]) ∧ eb'.data.toList = shuts (i + 1) ∧ bts (spEnd (ks ++ [k])) = pb')) := fun k hk sb' eb' pb' h1 h2 h3 =>
        ⟨by rw [List.length_append, hks.out.1]; rfl, fun j hj => by
          rcases List.mem_append.1 hj with hj | hj
          · exact hks.out.2.1 j hj
          · rw [List.mem_singleton] at hj
            subst hj
            exact hk, by rw [tags_snoc]; exact h1, h2, by rw [spEnd_snoc]; exact h3⟩
      have HO2 : Hid (∀ k, spsF [] (ks ++ [k]) = spsF [] ks ++ [spN (spEnd ks) k]) := fun k => spsF_snoc ks [] k
      have hsL := Lib.hid hks.out.2.2.1
      have heL := Lib.hid hks.out.2.2.2.1
      have hpL := Lib.hid hks.out.2.2.2.2
      clear hcz hks hk4 hk4'
      have hkc : k = 0 ∨ k = 1 ∨ k = 2 ∨ k = 3 := by have := HK4.out; omega
      rcases hkc with rfl | rfl | rfl | rfl
      · go_wp2_with (at_builtin; refine push_txts rfl _ _ rfl w.heap.size (.slice TA i tcap) (spsF [] ks) (spN (spEnd ks) 0) pb hpL.out wr rfl ho.out rfl hll.out hszb ?_)
        intro v9 w9 o9 b9
        have B9 : Hid (Below w.heap.size w w9) := hb.out.trans b9
        have O9 : Hid (OwnT w.heap.size w9 v9 (spsF [] (ks ++ [0]))) := by unfold Hid; rw [HO2.out]; exact o9
        clear o9 b9 hszb hz hk
        go_wp2_with fail
        refine ⟨⟨i + 1, ks ++ [0], _, _, _, v9, by omega, by omega, by go_num, rfl, rfl, rfl, rfl, HF.out 0 (by omega) _ _ _ ?_ ?_ hpL.out, O9, B9⟩, ?_⟩
        · simp [hsL.out, tag]
        · simp [heL.out, shut]
        · simp [intOf]
          omega
      · obtain ⟨W5, hW5⟩ : ∃ W5, wr.alloc (.cells #[.string ⟨#[]⟩, .string ⟨#[117]⟩, .string ⟨#[118]⟩, .string ⟨#[]⟩] 9) = W5 := ⟨_, rfl⟩
        have hb5 : Below wr.heap.size wr W5 := by rw [← hW5]; exact (Below.refl _ _).alloc (Nat.le_refl _) _
        have O5 := Lib.hid (ho.out.keep (.below hb5))
        have B5 : Hid (Below w.heap.size w W5) := hb.out.trans (hb5.mono hszb)
        have Z5 := B5.out.size
        have HW5 := Lib.hid hW5
        have hk1 : wrap64 ((IntKind.u64.wrap z).tmod 4) = 1 := hk
        clear hb5 hW5 hszb ho hb hk
        go_upto_region 11 with fail
        rw [HW5.out]
        clear hz hk1 HW5
        go_wp2_with (at_builtin; refine push_txts rfl _ _ rfl w.heap.size (.slice TA i tcap) (spsF [] ks) (spN (spEnd ks) 1) ⟨#[117]⟩ rfl W5 rfl O5.out rfl hll.out Z5 ?_)
        intro v9 w9 o9 b9
        have B9 : Hid (Below w.heap.size w w9) := B5.out.trans b9
        have O9 : Hid (OwnT w.heap.size w9 v9 (spsF [] (ks ++ [1]))) := by unfold Hid; rw [HO2.out]; exact o9
        clear o9 b9 Z5
        go_wp2_with fail
        refine ⟨⟨i + 1, ks ++ [1], _, _, _, v9, by omega, by omega, by go_num, rfl, rfl, rfl, rfl, HF.out 1 (by omega) _ _ _ ?_ ?_ rfl, O9, B9⟩, ?_⟩
        · simp [hsL.out, tag, tbl]
        · simp [heL.out, shut]
        · simp [intOf]
          omega
      · obtain ⟨W5, hW5⟩ : ∃ W5, wr.alloc (.cells #[.string ⟨#[]⟩, .string ⟨#[117]⟩, .string ⟨#[118]⟩, .string ⟨#[]⟩] 9) = W5 := ⟨_, rfl⟩
        have hb5 : Below wr.heap.size wr W5 := by rw [← hW5]; exact (Below.refl _ _).alloc (Nat.le_refl _) _
        have O5 := Lib.hid (ho.out.keep (.below hb5))
        have B5 : Hid (Below w.heap.size w W5) := hb.out.trans (hb5.mono hszb)
        have Z5 := B5.out.size
        have HW5 := Lib.hid hW5
        have hk1 : wrap64 ((IntKind.u64.wrap z).tmod 4) = 2 := hk
        clear hb5 hW5 hszb ho hb hk
        go_upto_region 11 with fail
        rw [HW5.out]
        clear hz hk1 HW5
        go_wp2_with (at_builtin; refine push_txts rfl _ _ rfl w.heap.size (.slice TA i tcap) (spsF [] ks) (spN (spEnd ks) 2) ⟨#[118]⟩ rfl W5 rfl O5.out rfl hll.out Z5 ?_)
        intro v9 w9 o9 b9
        have B9 : Hid (Below w.heap.size w w9) := B5.out.trans b9
        have O9 : Hid (OwnT w.heap.size w9 v9 (spsF [] (ks ++ [2]))) := by unfold Hid; rw [HO2.out]; exact o9
        clear o9 b9 Z5
        go_wp2_with fail
        refine ⟨⟨i + 1, ks ++ [2], _, _, _, v9, by omega, by omega, by go_num, rfl, rfl, rfl, rfl, HF.out 2 (by omega) _ _ _ ?_ ?_ rfl, O9, B9⟩, ?_⟩
        · simp [hsL.out, tag, tbl]
        · simp [heL.out, shut]
        · simp [intOf]
          omega
      · obtain ⟨W5, hW5⟩ : ∃ W5, wr.alloc (.cells #[.string ⟨#[]⟩, .string ⟨#[117]⟩, .string ⟨#[118]⟩, .string ⟨#[]⟩] 9) = W5 := ⟨_, rfl⟩
        have hb5 : Below wr.heap.size wr W5 := by rw [← hW5]; exact (Below.refl _ _).alloc (Nat.le_refl _) _
        have O5 := Lib.hid (ho.out.keep (.below hb5))
        have B5 : Hid (Below w.heap.size w W5) := hb.out.trans (hb5.mono hszb)
        have Z5 := B5.out.size
        have HW5 := Lib.hid hW5
        have hk1 : wrap64 ((IntKind.u64.wrap z).tmod 4) = 3 := hk
        clear hb5 hW5 hszb ho hb hk
        go_upto_region 11 with fail
        rw [HW5.out]
        clear hz hk1 HW5
        go_wp2_with (at_builtin; refine push_txts rfl _ _ rfl w.heap.size (.slice TA i tcap) (spsF [] ks) (spN (spEnd ks) 3) ⟨#[]⟩ rfl W5 rfl O5.out rfl hll.out Z5 ?_)
        intro v9 w9 o9 b9
        have B9 : Hid (Below w.heap.size w w9) := B5.out.trans b9
        have O9 : Hid (OwnT w.heap.size w9 v9 (spsF [] (ks ++ [3]))) := by unfold Hid; rw [HO2.out]; exact o9
        clear o9 b9 Z5
        go_wp2_with fail
        refine ⟨⟨i + 1, ks ++ [3], _, _, _, v9, by omega, by omega, by go_num, rfl, rfl, rfl, rfl, HF.out 3 (by omega) _ _ _ ?_ ?_ rfl, O9, B9⟩, ?_⟩
        · simp [hsL.out, tag, tbl]
        · simp [heL.out, shut]
        · simp [intOf]
          omega
    · have HM := Lib.hid hks.out.1
      have hstop : (¬ i < n ∧ decide ((i : Int) < (n : Int)) = false) ∨ (i < n ∧ ¬ i < 10 ∧ decide ((i : Int) < (n : Int)) = true ∧ decide ((i : Int) < 10) = false) := by
        by_cases h1 : i < n
        · exact .inr ⟨h1, by omega, decide_eq_true (by omega), decide_eq_false (by omega)⟩
        · exact .inl ⟨h1, decide_eq_false (by omega)⟩
      have hp := HPa.out (sb ++ eb) wr hb.out (by rw [ByteArray.size_append]; omega)
      rw [show (sb ++ eb).data.toList = tags ks ++ shuts ks.length by simp [hks.out.2.2.1, hks.out.2.2.2.1, hks.out.1]] at hp
      have hszb := Lib.hid hb.out.size
      by_cases h0 : i = 0
      · have hk0 : ks = [] := List.eq_nil_of_length_eq_zero (by rw [hks.out.1]; exact h0)
        rw [hk0, show tags [] ++ shuts ([] : List Nat).length = [] from rfl, spaces_none] at hp
        have HP := Lib.hid hp
        have hi0 : (i : Int) = 0 := by omega
        clear hp hk0 hks HSL hin hi10
        subst h0
        rcases hstop with ⟨g0, g1⟩ | ⟨g0, g3, g1, g2⟩
        · go_wp2_with fail
          refine HP.out.mono ?_
          rintro e w1 ⟨⟨v1, rfl, o1⟩, b1⟩
          obtain ⟨A1, cap1, rfl⟩ := o1.slice
          have B1 := Lib.hid (hb.out.trans (b1.mono hszb.out))
          clear b1 o1
          go_wp2_with fail
          refine (HA.out _ B1.out).mono ?_
          rintro e w3 ⟨rfl, b3⟩
          have B3 := Lib.hid (B1.out.trans (b3.mono B1.out.size))
          clear b3
          go_wp2_with fail
          go_ret
          exact ⟨rfl, B3.out⟩
        · omega
      · obtain ⟨ns, q1, q2, q3, q4⟩ := spaces_parse ks hks.out.2.1 (by rw [hks.out.1]; exact hi10) (by rw [hks.out.1]; omega)
        rw [q1] at hp
        rw [hks.out.1] at q2
        have HP := Lib.hid hp
        have Q2 := Lib.hid q2
        have Q3 := Lib.hid q3
        have Q4 := Lib.hid q4
        have hne : ((i : Int) == 0) = false := by simp; omega
        have hi0 : Hid (0 < i) := by unfold Hid; omega
        clear hp hks q1 q2 q3 q4 h0 hin
        rcases hstop with ⟨g0, g1⟩ | ⟨g0, g3, g1, g2⟩
        · go_wp2_with fail
          refine HP.out.mono ?_
          rintro e w1 ⟨⟨v1, rfl, o1⟩, b1⟩
          have B1 := Lib.hid (hb.out.trans (b1.mono hszb.out))
          have OT1 := Lib.hid (ho.out.keep (.below b1))
          obtain ⟨g, cap1, rfl, hgl, hat⟩ := o1.at (by rw [Q2.out]; exact hi0.out)
          rw [Q2.out]
          have HAT := Lib.hid hat
          have HGL := Lib.hid hgl
          clear b1 o1 hat hgl ho hb
          rcases OT1.out.cells with ⟨_, e0⟩ | ⟨gw, wcap, e1, hwl, hwc, hwcell⟩
          · exfalso
            have h9 := HSL.out
            rw [e0, List.length_nil] at h9
            have h10 := hi0.out
            omega
          rw [HSL.out] at e1
          injection e1 with e1 _ e2
          subst e1 e2
          have HWL := Lib.hid hwl
          have HWC := Lib.hid hwcell
          clear hwl hwc hwcell
          go_wp2_with fail
          go_loopw [12] (fun jv wr => ∃ j : Nat, j ≤ i ∧ jv = .int .i64 j ∧ Hid (Below w1.heap.size w1 wr)) (fun jv _ => i - (intOf jv).toNat)
          case atStart => exact ⟨0, Nat.zero_le _, rfl, Below.refl _ _⟩
          case round =>
            obtain ⟨j, hj, rfl, hbj⟩ := hrel
            by_cases hlt2 : j < i
            · obtain ⟨y, hy⟩ : ∃ y, ns[j]? = some y := ⟨_, List.getElem?_eq_getElem (by rw [Q2.out]; exact hlt2)⟩
              obtain ⟨u, hru, k0, k1, k2, k3, k4, k5⟩ := HAT.out j y hy
              obtain ⟨hal, haq⟩ := Q4.out y (List.mem_of_getElem? hy)
              have hsp : (spsF [] ks)[j]? = some y.2.2.2.1 := by rw [← Q3.out, List.getElem?_map, hy]; rfl
              have hw3 := HWC.out j _ hsp
              have hfar := fun o => hbj.out.cell (p := ⟨g, o, none⟩) HGL.out
              have hfar2 := fun o => hbj.out.cell (p := ⟨gw, o, none⟩) HWL.out
              rw [← hfar] at k0 k1 k2 k3 k4 k5
              rw [← hfar2] at hw3
              have HAR := attrTr_any y.1 y.2.1 (bts y.2.2.1) (bts y.2.2.2.1) (bts y.2.2.2.2.2) u y.2.2.2.2.1 xmlnsL wr (hru.keep (KeepA.below hbj.out)).reads (by omega)
              rw [haq] at HAR
              obtain ⟨UA, ucap, rfl, -⟩ := id hru
              obtain ⟨un, hun⟩ : ∃ un, y.2.2.2.2.1.length = un := ⟨_, rfl⟩
              rw [hun] at k4 HAR hal
              obtain ⟨a0, h0⟩ : ∃ a : Int, y.1 = a := ⟨_, rfl⟩
              obtain ⟨a1, h1⟩ : ∃ a : Int, y.2.1 = a := ⟨_, rfl⟩
              obtain ⟨a2, h2⟩ : ∃ a, bts y.2.2.1 = a := ⟨_, rfl⟩
              obtain ⟨a3, h3⟩ : ∃ a, bts y.2.2.2.1 = a := ⟨_, rfl⟩
              obtain ⟨a5, h5⟩ : ∃ a, bts y.2.2.2.2.2 = a := ⟨_, rfl⟩
              rw [h0, h1, h2, h3, h5] at HAR
              rw [h0] at k0
              rw [h1] at k1
              rw [h2] at k2
              rw [h3] at k3 hw3
              rw [h5] at k5
              have HAR2 : Hid (Calls Tryz.prog 12 #[.agg #[.int .i64 a0, .int .i64 a1, .string a2, .string a3, .slice UA un ucap, .string a5], .string ⟨#[120, 109, 108, 110, 115]⟩] wr fun e w' => e = .returned (.tuple #[.string ⟨#[]⟩, .bool false]) ∧ Below wr.heap.size wr w') := HAR
              have hgt : decide ((un : Int) > 1) = false := decide_eq_false (by omega)
              have K3 := Lib.hid k3
              have K4 := Lib.hid k4
              have W3 := Lib.hid hw3
              have hgwr : Hid (g < wr.heap.size) := Nat.lt_of_lt_of_le HGL.out hbj.out.size
              have hgwr2 : Hid (gw < wr.heap.size) := Nat.lt_of_lt_of_le HWL.out hbj.out.size
              clear HAR h0 h1 h2 h3 h5 hun haq hal hsp hfar hfar2 hy hru
              go_wp2_with fail
              refine HAR2.out.mono ?_
              rintro e w5 ⟨rfl, b5⟩
              have c3 : w5.cell? ⟨g, j * 6 + 3, none⟩ = some (.string a3) := (b5.cell (p := ⟨g, j * 6 + 3, none⟩) hgwr.out).trans K3.out
              have c4 : w5.cell? ⟨g, j * 6 + 4, none⟩ = some (.slice UA un ucap) := (b5.cell (p := ⟨g, j * 6 + 4, none⟩) hgwr.out).trans K4.out
              have cw : w5.cell? ⟨gw, j, none⟩ = some (.string a3) := (b5.cell (p := ⟨gw, j, none⟩) hgwr2.out).trans W3.out
              have B5 : Hid (Below w1.heap.size w1 w5) := hbj.out.trans (b5.mono hbj.out.size)
              have hji : (j : Int) < (i : Int) := by omega
              have hself : (a3.toList != a3.toList) = false := by simp
              clear b5 k0 k1 k2 k3 k4 k5 hw3 hbj
              go_upto_region 22 with fail
              go_quiet (fail)
              go_wp2_with fail
              go_roundw
              case rel => exact ⟨j + 1, by omega, by go_num, drewN_low B5.out _⟩
              case measure => simp [intOf]; omega
            · have B5 := Lib.hid (B1.out.trans (hbj.out.mono B1.out.size))
              go_wp2_with fail
              refine (HA.out _ B5.out).mono ?_
              rintro e w6 ⟨rfl, b6⟩
              have B6 := Lib.hid (B5.out.trans (b6.mono B5.out.size))
              clear b6
              go_wp2_with fail
              go_ret
              exact ⟨rfl, B6.out⟩
        · go_wp2_with fail
          refine HP.out.mono ?_
          rintro e w1 ⟨⟨v1, rfl, o1⟩, b1⟩
          have B1 := Lib.hid (hb.out.trans (b1.mono hszb.out))
          have OT1 := Lib.hid (ho.out.keep (.below b1))
          obtain ⟨g, cap1, rfl, hgl, hat⟩ := o1.at (by rw [Q2.out]; exact hi0.out)
          rw [Q2.out]
          have HAT := Lib.hid hat
          have HGL := Lib.hid hgl
          clear b1 o1 hat hgl ho hb
          rcases OT1.out.cells with ⟨_, e0⟩ | ⟨gw, wcap, e1, hwl, hwc, hwcell⟩
          · exfalso
            have h9 := HSL.out
            rw [e0, List.length_nil] at h9
            have h10 := hi0.out
            omega
          rw [HSL.out] at e1
          injection e1 with e1 _ e2
          subst e1 e2
          have HWL := Lib.hid hwl
          have HWC := Lib.hid hwcell
          clear hwl hwc hwcell
          go_wp2_with fail
          go_loopw [12] (fun jv wr => ∃ j : Nat, j ≤ i ∧ jv = .int .i64 j ∧ Hid (Below w1.heap.size w1 wr)) (fun jv _ => i - (intOf jv).toNat)
          case atStart => exact ⟨0, Nat.zero_le _, rfl, Below.refl _ _⟩
          case round =>
            obtain ⟨j, hj, rfl, hbj⟩ := hrel
            by_cases hlt2 : j < i
            · obtain ⟨y, hy⟩ : ∃ y, ns[j]? = some y := ⟨_, List.getElem?_eq_getElem (by rw [Q2.out]; exact hlt2)⟩
              obtain ⟨u, hru, k0, k1, k2, k3, k4, k5⟩ := HAT.out j y hy
              obtain ⟨hal, haq⟩ := Q4.out y (List.mem_of_getElem? hy)
              have hsp : (spsF [] ks)[j]? = some y.2.2.2.1 := by rw [← Q3.out, List.getElem?_map, hy]; rfl
              have hw3 := HWC.out j _ hsp
              have hfar := fun o => hbj.out.cell (p := ⟨g, o, none⟩) HGL.out
              have hfar2 := fun o => hbj.out.cell (p := ⟨gw, o, none⟩) HWL.out
              rw [← hfar] at k0 k1 k2 k3 k4 k5
              rw [← hfar2] at hw3
              have HAR := attrTr_any y.1 y.2.1 (bts y.2.2.1) (bts y.2.2.2.1) (bts y.2.2.2.2.2) u y.2.2.2.2.1 xmlnsL wr (hru.keep (KeepA.below hbj.out)).reads (by omega)
              rw [haq] at HAR
              obtain ⟨UA, ucap, rfl, -⟩ := id hru
              obtain ⟨un, hun⟩ : ∃ un, y.2.2.2.2.1.length = un := ⟨_, rfl⟩
              rw [hun] at k4 HAR hal
              obtain ⟨a0, h0⟩ : ∃ a : Int, y.1 = a := ⟨_, rfl⟩
              obtain ⟨a1, h1⟩ : ∃ a : Int, y.2.1 = a := ⟨_, rfl⟩
              obtain ⟨a2, h2⟩ : ∃ a, bts y.2.2.1 = a := ⟨_, rfl⟩
              obtain ⟨a3, h3⟩ : ∃ a, bts y.2.2.2.1 = a := ⟨_, rfl⟩
              obtain ⟨a5, h5⟩ : ∃ a, bts y.2.2.2.2.2 = a := ⟨_, rfl⟩
              rw [h0, h1, h2, h3, h5] at HAR
              rw [h0] at k0
              rw [h1] at k1
              rw [h2] at k2
              rw [h3] at k3 hw3
              rw [h5] at k5
              have HAR2 : Hid (Calls Tryz.prog 12 #[.agg #[.int .i64 a0, .int .i64 a1, .string a2, .string a3, .slice UA un ucap, .string a5], .string ⟨#[120, 109, 108, 110, 115]⟩] wr fun e w' => e = .returned (.tuple #[.string ⟨#[]⟩, .bool false]) ∧ Below wr.heap.size wr w') := HAR
              have hgt : decide ((un : Int) > 1) = false := decide_eq_false (by omega)
              have K3 := Lib.hid k3
              have K4 := Lib.hid k4
              have W3 := Lib.hid hw3
              have hgwr : Hid (g < wr.heap.size) := Nat.lt_of_lt_of_le HGL.out hbj.out.size
              have hgwr2 : Hid (gw < wr.heap.size) := Nat.lt_of_lt_of_le HWL.out hbj.out.size
              clear HAR h0 h1 h2 h3 h5 hun haq hal hsp hfar hfar2 hy hru
              go_wp2_with fail
              refine HAR2.out.mono ?_
              rintro e w5 ⟨rfl, b5⟩
              have c3 : w5.cell? ⟨g, j * 6 + 3, none⟩ = some (.string a3) := (b5.cell (p := ⟨g, j * 6 + 3, none⟩) hgwr.out).trans K3.out
              have c4 : w5.cell? ⟨g, j * 6 + 4, none⟩ = some (.slice UA un ucap) := (b5.cell (p := ⟨g, j * 6 + 4, none⟩) hgwr.out).trans K4.out
              have cw : w5.cell? ⟨gw, j, none⟩ = some (.string a3) := (b5.cell (p := ⟨gw, j, none⟩) hgwr2.out).trans W3.out
              have B5 : Hid (Below w1.heap.size w1 w5) := hbj.out.trans (b5.mono hbj.out.size)
              have hji : (j : Int) < (i : Int) := by omega
              have hself : (a3.toList != a3.toList) = false := by simp
              clear b5 k0 k1 k2 k3 k4 k5 hw3 hbj
              go_upto_region 22 with fail
              go_quiet (fail)
              go_wp2_with fail
              go_roundw
              case rel => exact ⟨j + 1, by omega, by go_num, drewN_low B5.out _⟩
              case measure => simp [intOf]; omega
            · have B5 := Lib.hid (B1.out.trans (hbj.out.mono B1.out.size))
              go_wp2_with fail
              refine (HA.out _ B5.out).mono ?_
              rintro e w6 ⟨rfl, b6⟩
              have B6 := Lib.hid (B5.out.trans (b6.mono B5.out.size))
              clear b6
              go_wp2_with fail
              go_ret
              exact ⟨rfl, B6.out⟩
end Go.Proofs.YtpomcamkkcggmaaGreatDoor
