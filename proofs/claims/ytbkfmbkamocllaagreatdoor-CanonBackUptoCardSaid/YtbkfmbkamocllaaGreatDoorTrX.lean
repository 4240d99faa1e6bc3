/-
  package tree: Parse, Kids, Attr; the law's awake.
-/
import Derived.Test.YtbkfmbkamocllaaGreatDoorTrU
import Derived.Test.YtbkfmbkamocllaaGreatDoorTkT
namespace Go.Proofs.YtbkfmbkamocllaaGreatDoor
open Go.RowKit Tk Tr

theorem backLen : ∀ (k : Nat) (l x : List UInt8), l.length ≤ k → Tx.back l = some x → x.length ≤ 4 * l.length
  | _, [], x, _, h => by
    rw [Tx.back_nil] at h
    cases h
    simp
  | 0, _ :: _, _, h, _ => by simp at h
  | k + 1, c :: t, x, hk, h => by
    have ht : t.length ≤ k := by simpa using hk
    by_cases h1 : c = 60
    · subst h1
      rw [Tx.back_lt] at h
      cases h
    by_cases h2 : c = 38
    · subst h2
      cases hc : Tx.cutS t with
      | none => rw [Tx.back_amp_none hc] at h; cases h
      | some p =>
        obtain ⟨n, r⟩ := p
        cases he : Tx.ent n with
        | none => rw [Tx.back_amp_bad hc he] at h; cases h
        | some v =>
          rw [Tx.back_amp_some hc he] at h
          obtain ⟨y, hy, rfl⟩ := Option.map_eq_some_iff.1 h
          have hr := Tx.cutS_len hc
          have := backLen k r y (by omega) hy
          have h4 := (Tx.enc_len (n := v)).2
          simp only [List.length_append, List.length_cons]
          omega
    · rw [Tx.back_plain t h1 h2] at h
      obtain ⟨y, hy, rfl⟩ := Option.map_eq_some_iff.1 h
      have := backLen k t y ht hy
      simp only [List.length_cons]
      omega
theorem tok_text_len {l r : List UInt8} {t : Tok} (h : tokL l = some (t, r)) : t.2.2.1.length + 4 * r.length ≤ 4 * l.length := by
  have hl := tok_len h
  rcases cases_tok l with ⟨x, rfl⟩ | ⟨x, rfl, hx⟩ | hx
  · rw [tok_close] at h
    unfold closeL at h
    split at h
    · cases h
    · split at h
      · cases h; simp only [List.length_nil, List.length_cons] at hl ⊢; omega
      · cases h
  · rw [tok_open hx] at h
    unfold openL at h
    split at h
    · cases h
    · rcases ends_some h with ⟨_, rfl⟩ | ⟨_, rfl⟩
      · simp only [List.length_nil, List.length_cons] at hl ⊢; omega
      · simp only [List.length_nil, List.length_cons] at hl ⊢; omega
  · rw [tok_text hx] at h
    obtain ⟨_, rfl, x, hx2, rfl⟩ := text_some h
    have h1 := backLen _ _ x (Nat.le_refl _) (backO_some hx2).2.1
    have h2 := while_len (· != 60) l
    simp only
    omega
def bulkA (ts : List TokA) : Nat := bulk (ts.map toI)
theorem bulkA_snoc (xs : List TokA) (p : TokA) : bulkA (xs ++ [p]) = bulkA xs + p.2.2.2.1.length := by
  unfold bulkA bulk
  simp [toI]
theorem bulkA_many (n : Nat) : ∀ (f : Nat) (xs : List TokA) (l : List UInt8), bulkA (manyF (nextT n) f xs l).1 ≤ bulkA xs + 4 * l.length
  | 0, xs, l => Nat.le_add_right _ _
  | f + 1, xs, l => by
    unfold manyF
    cases e : tokL l with
    | none => rw [nextT_none e]; exact Nat.le_add_right _ _
    | some p =>
      rw [nextT_some (r := p.2) (t := p.1) e]
      have h1 := tok_text_len (r := p.2) (t := p.1) e
      have h2 := bulkA_many n f (xs ++ [(n - l.length, p.1)]) p.2
      rw [bulkA_snoc] at h2
      simp only at h2 ⊢
      omega
theorem bulk_toks (l : List UInt8) (h : l.length ≤ 100000) : bulk ((tokensL l).1.map toI) ≤ 400000 := by
  unfold tokensL
  split
  · simp [bulk]
  split
  · unfold told
    split
    · simp [bulk]
    · split
      · have h1 := bulkA_many l.length ((over headL l).length + 1) [] (over headL l)
        have h2 : (over headL l).length ≤ l.length := by
          unfold over
          split
          · rw [List.length_drop]; omega
          · exact Nat.le_refl _
        have h3 : bulkA ([] : List TokA) = 0 := rfl
        unfold toksL
        show bulkA (manyF _ _ _ _).1 ≤ _
        omega
      · simp [bulk]
  · simp [bulk]
theorem parse_bad {l : List UInt8} (h : (tokensL l).2.2 ≠ 0) : parseL l = ([], ((tokensL l).2.1 : Int), (tokensL l).2.2) := by unfold parseL; rw [if_neg h]
theorem parse_good {l : List UInt8} (h : (tokensL l).2.2 = 0) : parseL l = buildL ((tokensL l).1.map toI) := by unfold parseL; rw [if_pos h]
theorem BuiltOut.weak {B B' : Nat} {o : List Nd × Int × Nat} {e : Ending} {w : World} (h : BuiltOut B o e w) (hB : B' ≤ B) : BuiltOut B' o e w := by
  obtain ⟨v, h1, h2⟩ := h
  exact ⟨v, h1, h2.weak hB⟩
set_option maxHeartbeats 4000000 in
set_option maxRecDepth 100000 in
theorem parse_any (s : ByteArray) (w : World) (hT : Tabs w) (hE : ErrS w) (hs : s.size ≤ 100000) :
    Calls Tryz.prog 6 #[.string s] w fun e w' => BuiltOut w.heap.size (parseL s.data.toList) e w' ∧ Below w.heap.size w w' := by
  have hsz := Lib.size_eq s
  have H1 := Lib.hid (tokens_any s w hT hE (by omega))
  have HCN := Lib.hid (toks_count s.data.toList (by omega))
  have HCA := Lib.hid (toks_attrs s.data.toList (by omega))
  have HCB := Lib.hid (bulk_toks s.data.toList (by omega))
  have HPB := Lib.hid (parse_bad (l := s.data.toList))
  have HPG := Lib.hid (parse_good (l := s.data.toList))
  obtain ⟨O, hO⟩ : ∃ O, tokensL s.data.toList = O := ⟨_, rfl⟩
  rw [hO] at H1 HCN HCA HCB HPB HPG
  obtain ⟨tl, p, q⟩ := O
  simp only at H1 HCN HCA HCB HPB HPG
  clear hO hT hE hsz hs
  obtain ⟨pz, hpz⟩ : ∃ z : Int, (p : Int) = z := ⟨_, rfl⟩
  obtain ⟨qz, hqz⟩ : ∃ z : Int, (q : Int) = z := ⟨_, rfl⟩
  have HPZ := Lib.hid hpz
  have HQZ := Lib.hid hqz
  by_cases hq : q = 0
  · have HR := Lib.hid (HPG.out hq)
    have hq0 : qz = 0 := by omega
    obtain ⟨bo, hbo⟩ : ∃ bo, buildL (tl.map toI) = bo := ⟨_, rfl⟩
    obtain ⟨rn, ra, re⟩ := bo
    rw [hbo] at HR
    have HBO := Lib.hid hbo
    clear hpz hqz hq hbo
    go_enter Tryz.func6, Tryz.ntmps6
    go_wp2_with fail
    refine H1.out.mono ?_
    rintro e w1 ⟨⟨v, rfl, o1⟩, b1⟩
    simp only
    rw [HPZ.out, HQZ.out, hq0]
    have HBU := Lib.hid (build_any v (tl.map toI) w1 o1.reads.readI (by rw [List.length_map]; exact HCN.out) (by have := HCB.out; omega) (fun t ht => by
      obtain ⟨k, hk, rfl⟩ := List.mem_map.1 ht
      have := HCA.out k hk
      show k.2.2.2.2.1.length ≤ _
      omega))
    rw [HBO.out] at HBU
    obtain ⟨A, cap, rfl⟩ := o1.len
    have B1 := Lib.hid b1
    clear o1 b1
    go_wp2_with fail
    refine HBU.out.mono ?_
    rintro e w2 ⟨⟨v2, rfl, o2⟩, b2⟩
    have B2 : Hid (Below w.heap.size w w2) := B1.out.trans (b2.mono B1.out.size)
    have O2 := Lib.hid (o2.weak B1.out.size)
    simp only at O2 o2 ⊢
    obtain ⟨A2, cap2, rfl⟩ := o2.slice
    clear b2 o2
    go_wp2_with fail
    refine bodyPost_ret (v := .tuple #[.slice A2 rn.length cap2, .int .i64 ra, .int .i64 (re : Nat)]) (by simp [results, Tryz.results6, go_sem]) rfl ⟨by rw [HR.out]; exact ⟨_, rfl, O2.out⟩, B2.out⟩
  · have HR := Lib.hid (HPB.out hq)
    have hq0 : (qz != 0) = true := by simp; omega
    clear hpz hqz hq
    go_enter Tryz.func6, Tryz.ntmps6
    go_wp2_with fail
    refine H1.out.mono ?_
    rintro e w1 ⟨⟨v, rfl, o1⟩, b1⟩
    simp only
    rw [HPZ.out, HQZ.out]
    obtain ⟨A, cap, rfl⟩ := o1.len
    have B1 := Lib.hid b1
    clear o1 b1
    go_wp2_with fail
    refine bodyPost_ret (v := .tuple #[.slice none 0 0, .int .i64 pz, .int .i64 qz]) (by simp [results, Tryz.results6, go_sem]) rfl ⟨BuiltOut.err HR.out (by rw [HPZ.out, HQZ.out]), B1.out⟩
end Go.Proofs.YtbkfmbkamocllaaGreatDoor
