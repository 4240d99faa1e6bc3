/-
  The law TreeMany.
-/
import Derived.Test.YtpomcamkkcggmaaGreatDoorTrY
import Derived.Test.YtpomcamkkcggmaaGreatDoorUint
import Derived.Test.YtpomcamkkcggmaaGreatDoorHolds
namespace Go.Proofs.YtpomcamkkcggmaaGreatDoor
open Go.RowKit Tk Tr

def opT (i : Nat) : TokA := (i, 1, [97], [], [], false)
def emT (d i : Nat) : TokA := (d + i, 1, [98], [], [], true)
def clT : TokA := (0, 2, [97], [], [], false)
def opsL (d : Nat) : List TokA := (List.range d).map opT
def emL (d m : Nat) : List TokA := (List.range m).map (emT d)
def clL (j : Nat) : List TokA := List.replicate j clT
def nodeO (i : Nat) : Nd := ((i : Int) - 1, i, [97], [], [], [])
def nodeE (d i : Nat) : Nd := ((d : Int) - 1, (d : Int) + i, [98], [], [], [])
def elsO (d : Nat) : List Nd := (List.range d).map nodeO
def elsE (d m : Nat) : List Nd := elsO d ++ (List.range m).map (nodeE d)
theorem opsL_succ (d : Nat) : opsL (d + 1) = opsL d ++ [opT d] := by simp [opsL, List.range_succ]
theorem emL_succ (d m : Nat) : emL d (m + 1) = emL d m ++ [emT d m] := by simp [emL, List.range_succ]
theorem clL_succ (j : Nat) : clL (j + 1) = clL j ++ [clT] := by simp [clL, List.replicate_succ']
theorem elsO_succ (d : Nat) : elsO (d + 1) = elsO d ++ [nodeO d] := by simp [elsO, List.range_succ]
theorem elsE_succ (d m : Nat) : elsE d (m + 1) = elsE d m ++ [nodeE d m] := by simp [elsE, List.range_succ]
theorem elsO_len (d : Nat) : (elsO d).length = d := by simp [elsO]
theorem elsE_len (d m : Nat) : (elsE d m).length = d + m := by simp [elsE, elsO]
theorem range_last (d : Nat) : (List.range d).getLast? = if d = 0 then none else some (d - 1) := by
  cases d with
  | zero => rfl
  | succ d => rw [List.range_succ, List.getLast?_append]; simp
theorem top_range (d : Nat) : topI (List.range d) = (d : Int) - 1 := by
  unfold topI
  rw [range_last]
  by_cases h : d = 0
  · rw [if_pos h]; subst h; rfl
  · rw [if_neg h]; simp only; omega
theorem elsO_get {d i : Nat} (h : i < d) : (elsO d)[i]? = some (nodeO i) := by simp [elsO, h]
theorem elsE_get {d m i : Nat} (h : i < d) : (elsE d m)[i]? = some (nodeO i) := by
  unfold elsE
  rw [List.getElem?_append_left (by rw [elsO_len]; exact h)]
  exact elsO_get h
theorem elsE_top {d m i : Nat} (h : i < m) : (elsE d m)[d + i]? = some (nodeE d i) := by
  unfold elsE
  rw [List.getElem?_append_right (by rw [elsO_len]; omega), elsO_len, Nat.add_sub_cancel_left]
  simp [h]
theorem run_one {st : St} {t : TokI} {ts us : List TokI} (hb : badL st t = 0) {st' : St} (hn : nextL st t = st') (h : runL st' ts = runL st' us) : runL st (t :: ts) = runL st' us := by
  rw [run_good hb, hn, h]
theorem inner_none {st : St} (h : ∀ x ∈ st.1, x.2.2.2.1 = []) : innerSpace st = [] := by
  unfold innerSpace
  split
  · split
    · rename_i x hx; exact h x (List.mem_of_getElem? hx)
    · rfl
  · rfl
theorem elsO_space (d : Nat) : ∀ x ∈ elsO d, x.2.2.2.1 = [] := by
  intro x hx
  obtain ⟨i, _, rfl⟩ := List.mem_map.1 hx
  rfl
theorem elsE_space (d m : Nat) : ∀ x ∈ elsE d m, x.2.2.2.1 = [] := by
  intro x hx
  rcases List.mem_append.1 hx with hx | hx
  · exact elsO_space d x hx
  · obtain ⟨i, _, rfl⟩ := List.mem_map.1 hx
    rfl
theorem open_step {d : Nat} (hd : d < 12) : badL (elsO d, List.range d) (toI (opT d)) = 0 ∧ nextL (elsO d, List.range d) (toI (opT d)) = (elsO (d + 1), List.range (d + 1)) := by
  have hin := inner_none (st := (elsO d, List.range d)) (elsO_space d)
  constructor
  · show badOpen _ = 0
    unfold badOpen
    simp only [List.length_range, elsO_len]
    rw [if_neg, if_neg (by omega), if_neg (by omega)]
    rintro ⟨h1, h2⟩
    apply h1
    have := congrArg List.length h2
    simp only [List.length_range, List.length_nil] at this
    subst this
    rfl
  · show beginL _ _ = _
    unfold beginL nodeOf
    simp only [elsO_len]
    rw [elsO_succ, List.range_succ, top_range]
    show (elsO d ++ [((d : Int) - 1, (d : Int), [97], innerSpace _, [], [])], List.range d ++ [d]) = _
    rw [hin]
    rfl
theorem empty_step {d m : Nat} (hd0 : 0 < d) (hd : d < 12) (hm : d + m ≠ 1000) : badL (elsE d m, List.range d) (toI (emT d m)) = 0 ∧ nextL (elsE d m, List.range d) (toI (emT d m)) = (elsE d (m + 1), List.range d) := by
  have hin := inner_none (st := (elsE d m, List.range d)) (elsE_space d m)
  constructor
  · show badOpen _ = 0
    unfold badOpen
    simp only [List.length_range, elsE_len]
    rw [if_neg, if_neg (by omega), if_neg hm]
    rintro ⟨h1, h2⟩
    have := congrArg List.length h2
    simp only [List.length_range, List.length_nil] at this
    omega
  · show beginL _ _ = _
    unfold beginL nodeOf
    rw [elsE_succ]
    simp only
    rw [top_range]
    show (elsE d m ++ [((d : Int) - 1, ((d + m : Nat) : Int), [98], innerSpace _, [], [])], List.range d) = _
    rw [hin]
    rfl
theorem empty_full {d m : Nat} (hd0 : 0 < d) (hd : d < 12) (hm : d + m = 1000) : badL (elsE d m, List.range d) (toI (emT d m)) = 4 := by
  show badOpen _ = 4
  unfold badOpen
  simp only [List.length_range, elsE_len]
  rw [if_neg, if_neg (by omega), if_pos hm]
  rintro ⟨h1, h2⟩
  have := congrArg List.length h2
  simp only [List.length_range, List.length_nil] at this
  omega
theorem close_step {d m j : Nat} (hj : j < d) : badL (elsE d m, List.range (j + 1)) (toI clT) = 0 ∧ nextL (elsE d m, List.range (j + 1)) (toI clT) = (elsE d m, List.range j) := by
  constructor
  · show (if sameName _ [97] then 0 else 6) = 0
    have : sameName (elsE d m, List.range (j + 1)) [97] = true := by
      rw [same_name (p := j) (x := nodeO j) (by simp only; rw [range_last]; simp) (elsE_get hj)]
      rfl
    rw [this]
    rfl
  · show ((elsE d m), (List.range (j + 1)).dropLast) = _
    rw [List.range_succ, List.dropLast_concat]
theorem run_opens (rest : List TokI) : ∀ d, d ≤ 12 → runL ([], []) ((opsL d).map toI ++ rest) = runL (elsO d, List.range d) rest := by
  intro d
  induction d generalizing rest with
  | zero => intro _; rfl
  | succ d ih =>
    intro h
    rw [opsL_succ, List.map_append, List.append_assoc, ih _ (by omega)]
    obtain ⟨h1, h2⟩ := open_step (d := d) (by omega)
    show runL _ (toI (opT d) :: rest) = _
    rw [run_good h1, h2]
theorem run_empties (d : Nat) (hd0 : 0 < d) (hd : d < 12) (rest : List TokI) : ∀ m, d + m ≤ 1000 → runL (elsO d, List.range d) ((emL d m).map toI ++ rest) = runL (elsE d m, List.range d) rest := by
  intro m
  induction m generalizing rest with
  | zero =>
    intro _
    show runL _ rest = runL (elsO d ++ [], _) rest
    rw [List.append_nil]
  | succ m ih =>
    intro h
    rw [emL_succ, List.map_append, List.append_assoc, ih _ (by omega)]
    obtain ⟨h1, h2⟩ := empty_step (d := d) (m := m) hd0 hd (by omega)
    show runL _ (toI (emT d m) :: rest) = _
    rw [run_good h1, h2]
theorem run_closes (d m : Nat) : ∀ j, j ≤ d → runL (elsE d m, List.range j) ((clL j).map toI) = (none, (elsE d m, [])) := by
  intro j
  induction j with
  | zero => intro _; rfl
  | succ j ih =>
    intro h
    obtain ⟨h1, h2⟩ := close_step (d := d) (m := m) (j := j) (by omega)
    show runL _ (toI clT :: (clL j).map toI) = _
    rw [run_good h1, h2]
    exact ih (by omega)
def manyTs (d m : Nat) : List TokA := opsL d ++ emL d m ++ clL d
theorem elsE_text (d m : Nat) : ∀ x ∈ elsE d m, x.2.2.2.2.2 = [] := by
  intro x hx
  rcases List.mem_append.1 hx with hx | hx
  · obtain ⟨i, _, rfl⟩ := List.mem_map.1 hx
    rfl
  · obtain ⟨i, _, rfl⟩ := List.mem_map.1 hx
    rfl
theorem done_same (els : List Nd) : ∀ (k : Nat) (l : List Nd), (∀ x ∈ l, x.2.2.2.2.2 = []) → doneF els k l = l
  | _, [], _ => rfl
  | k, x :: l, h => by
    rw [doneF, done_same els (k + 1) l (fun y hy => h y (List.mem_cons_of_mem _ hy))]
    congr 1
    unfold doneAt
    have := h x List.mem_cons_self
    obtain ⟨a, b, c, e, f, g⟩ := x
    simp only at this
    subst this
    simp
theorem many_ok {d m : Nat} (hd0 : 0 < d) (hd : d < 12) (hm : d + m ≤ 1000) : buildL ((manyTs d m).map toI) = (elsE d m, 0, 0) := by
  have hrun : runL ([], []) ((manyTs d m).map toI) = (none, (elsE d m, [])) := by
    unfold manyTs
    rw [List.map_append, List.map_append, List.append_assoc, run_opens _ d (by omega), run_empties d hd0 hd _ m hm, run_closes d m d (Nat.le_refl _)]
  rw [build_end hrun]
  unfold endL
  rw [if_neg, fin_right]
  · simp only
    rw [done_same _ _ _ (elsE_text d m)]
  · intro i hi
    have : (elsE d m)[i]? = some (elsE d m)[i] := List.getElem?_eq_getElem hi
    rw [wrong_eq this, elsE_text d m _ (List.mem_of_getElem? this)]
    simp [blankL]
  · rintro (h | h)
    · have := congrArg List.length h
      rw [elsE_len, List.length_nil] at this
      omega
    · exact h rfl
theorem many_full {d m : Nat} (hd0 : 0 < d) (hd : d < 12) (hm : d + m = 1001) : buildL ((manyTs d m).map toI) = ([], 1000, 4) := by
  obtain ⟨m', rfl⟩ : ∃ m', m = m' + 1 := ⟨m - 1, by omega⟩
  have hb := empty_full (d := d) (m := m') hd0 hd (by omega)
  have hrun : runL ([], []) ((manyTs d (m' + 1)).map toI) = (some (1000, 4), (elsE d m', List.range d)) := by
    unfold manyTs
    rw [emL_succ, List.map_append, List.map_append, List.append_assoc, run_opens _ d (by omega), List.map_append, List.append_assoc, run_empties d hd0 hd _ m' (by omega)]
    show runL _ (toI (emT d m') :: _) = _
    rw [run_bad (by rw [hb]; decide), hb]
    have : (toI (emT d m')).2.1 = 1000 := by show ((d + m' : Nat) : Int) = 1000; omega
    rw [this]
  rw [build_bad hrun]
theorem kids_count (i : Int) : ∀ (k : Nat) (l : List Nd), (kidsF i k l).length = l.countP (fun x => decide (x.1 = i))
  | _, [] => rfl
  | k, x :: l => by
    have := kids_count i (k + 1) l
    unfold kidsF
    rw [List.countP_cons]
    by_cases h : x.1 = i
    · rw [if_pos h, List.length_cons, this]; simp [h]
    · rw [if_neg h, this]; simp [h]
theorem many_kids {d m : Nat} (hd0 : 0 < d) : (kidsL (elsE d m) ((d : Int) - 1)).length = m := by
  unfold kidsL
  rw [if_pos (by rw [elsE_len]; omega), kids_count]
  unfold elsE
  rw [List.countP_append]
  have h1 : (elsO d).countP (fun x => decide (x.1 = (d : Int) - 1)) = 0 := by
    rw [List.countP_eq_zero]
    intro x hx
    obtain ⟨i, hi, rfl⟩ := List.mem_map.1 hx
    rw [List.mem_range] at hi
    simp [nodeO]
    omega
  have h2 : ((List.range m).map (nodeE d)).countP (fun x => decide (x.1 = (d : Int) - 1)) = m := by
    rw [List.countP_eq_length.2, List.length_map, List.length_range]
    intro x hx
    obtain ⟨i, hi, rfl⟩ := List.mem_map.1 hx
    simp [nodeE]
  rw [h1, h2, Nat.zero_add]
/-- An append of one token. -/
theorem push_tokT {ops : Array Oper} {rest : List Oper} {o : Oper} {a : Act} {Q : Exit → Act → World → Prop} (hgd : o.guard = none) (s x : Operand) (ho : o.op = .call { callee := .builtin .append, args := #[s, x], argTypes := #[22, 22] })
    (B : Nat) (v : Value) (l : List TokA) (p : TokA) (u : Value) (kk kp : Int) (x1 x2 : ByteArray) (b : Bool) (e1 : kk = p.2.1) (e2 : kp = p.1) (e3 : x1 = bts p.2.2.1) (e4 : x2 = bts p.2.2.2.1) (e5 : b = p.2.2.2.2.2) (w0 : World) (hs : a.eval s = v) (hown : OwnK B w0 v l) (hu : RowA w0 u p.2.2.2.2.1) (hx : a.eval x = .slice (some ⟨w0.heap.size, 0, none⟩) 1 1) (hn : l.length ≤ 1000000000) (hB : B ≤ w0.heap.size)
    (h : ∀ v' w', OwnK B w' v' (l ++ [p]) → Below B w0 w' → wpList Tryz.prog ops Q rest (a.put o.dst v') w') : wpList Tryz.prog ops Q (o :: rest) a (w0.alloc (.cells #[.int .i64 kk, .int .i64 kp, .string x1, .string x2, u, .bool b] 45)) := by
  subst e1 e2 e3 e4 e5
  obtain ⟨i0, hi, hz0, hz1, hz2⟩ := info_parts infoTok
  obtain ⟨ks, rfl, hown', hr⟩ := hown
  rw [List.length_map] at hn
  refine wpList_append_own _ hgd s x 22 ho B 45 i0 _ 6 80 Tryz.underlying22 hi hz0 hz1 hz2 rfl (by decide) v ks.length (kts ks) hs (hown'.alloc _) ⟨w0.heap.size, 0, none⟩ 1 1 (encK (p, u)) hx rfl ?_ ?_ ?_ (by omega) (by simp; omega) ?_
  · intro j y hj
    rw [add_at, cell_of_row _ _ _ #[_, _, _, _, _, _] _ (0, 0) (heap_alloc_new w0 _)]
    rw [Nat.zero_add]
    simpa [encK] using hj
  · intro y hy
    simp [encK] at hy
    rcases hy with rfl | rfl | rfl | rfl | rfl | rfl
    · rfl
    · rfl
    · rfl
    · rfl
    · exact hu.one
    · rfl
  · unfold maxLen; omega
  · intro v' w' hown2 hg _
    have hKA : KeepA w0 w' := grown_keepA hg (fun g e => by
      rcases hown'.2 with ⟨rfl, _⟩ | ⟨g', cap, cur, rfl, _, hh, _⟩
      · cases e
      · injection e with e
        subst e
        exact ⟨cur, hh⟩)
    refine h v' w' ⟨ks ++ [(p, u)], by simp, ?_, fun k hk => ?_⟩ (((Below.refl B w0).alloc hB _).grown hg (by simp; omega) (fun j hj => (World.ownsRow.lt hown' j hj).1))
    · rw [kts_append, kts_one, List.length_append, List.length_singleton]
      exact hown2
    · rcases List.mem_append.1 hk with hk | hk
      · exact (hr k hk).keep hKA
      · rw [List.mem_singleton] at hk
        subst hk
        exact hu.keep hKA
theorem manyTs_len (d m : Nat) : (manyTs d m).length = d + m + d := by simp [manyTs, opsL, emL, clL]; omega
theorem manyTs_text (d m : Nat) : ∀ t ∈ manyTs d m, t.2.2.2.1 = [] ∧ t.2.2.2.2.1 = [] := by
  intro t ht
  unfold manyTs at ht
  rw [List.mem_append, List.mem_append] at ht
  rcases ht with (ht | ht) | ht
  · obtain ⟨i, _, rfl⟩ := List.mem_map.1 ht
    exact ⟨rfl, rfl⟩
  · obtain ⟨i, _, rfl⟩ := List.mem_map.1 ht
    exact ⟨rfl, rfl⟩
  · have := List.eq_of_mem_replicate ht
    subst this
    exact ⟨rfl, rfl⟩
theorem bulk_zero : ∀ l : List TokI, (∀ t ∈ l, t.2.2.2.1 = []) → bulk l = 0
  | [], _ => rfl
  | t :: l, h => by
    have := bulk_zero l (fun u hu => h u (List.mem_cons_of_mem _ hu))
    unfold bulk at this ⊢
    rw [List.map_cons, List.sum_cons, this, h t List.mem_cons_self]
    rfl
theorem nilRow (w : World) : RowA w (.slice none 0 0) [] := (OwnA.nil 0 w).row
set_option maxHeartbeats 8000000 in
set_option maxRecDepth 100000 in
theorem treeMany_any (a b : Int) (w : World) (hT : Tabs w) (hE : ErrS w) :
    Calls Tryz.prog 6 #[.int .i64 a, .int .i64 b] w (Holds w) := by
  have HTab := Lib.hid (fun (W : World) (h : Below w.heap.size w W) => And.intro (hT.below h) (hE.below h))
  have HA := Lib.hid (fun (W : World) (h : Below w.heap.size w W) => awakeT_any W (HTab.out W h).1 (HTab.out W h).2)
  obtain ⟨x, hx, hx4⟩ := uintMod a 4 (by omega) (by omega)
  obtain ⟨y, hy, hy10⟩ := uintMod b 10 (by omega) (by omega)
  have hx4' : x < 4 := by omega
  have hy10' : y < 10 := by omega
  obtain ⟨n, hn⟩ : ∃ n, 998 + x = n := ⟨_, rfl⟩
  obtain ⟨d, hd⟩ : ∃ d, 1 + y = d := ⟨_, rfl⟩
  have hn2 : (998 : Int) + (x : Int) = (n : Int) := by omega
  have hd2 : (1 : Int) + (y : Int) = (d : Int) := by omega
  have hn3 : n ≤ 1001 := by omega
  have hn4 : Hid (998 ≤ n) := by unfold Hid; omega
  have hd3 : d ≤ 10 := by omega
  have hd4 : Hid (0 < d) := by unfold Hid; omega
  clear hT hE hn hd hx4 hx4' hy10 hy10'
  go_enter Tryz.func6, Tryz.ntmps6
  go_wp2_with fail
  clear hx hy hn2 hd2
  go_loopw [5, 6] (fun lv iv wr => ∃ (i : Nat) (v : Value), i ≤ d ∧ iv = .int .i64 i ∧ lv = v ∧ Hid (OwnK w.heap.size wr v (opsL i)) ∧ Hid (Below w.heap.size w wr)) (fun _ iv _ => d - (intOf iv).toNat)
  case atStart => exact ⟨0, _, Nat.zero_le _, rfl, rfl, OwnK.nil _ _, Below.refl _ _⟩
  case round =>
    obtain ⟨i, v, hi, rfl, hv, ho, hb⟩ := hrel
    have hv2 := hv.symm
    clear hv
    subst hv2
    obtain ⟨A, cap, hvf⟩ := ho.out.len
    subst hvf
    have hlen : (opsL i).length = i := by simp [opsL]
    rw [hlen] at ho ⊢
    have HLEN := Lib.hid hlen
    clear hlen
    by_cases hlt : i < d
    · have hz := hb.out.size
      have hll : (opsL i).length ≤ 1000000000 := by rw [HLEN.out]; omega
      go_wp2_with (at_builtin; refine push_tokT rfl _ _ rfl w.heap.size (.slice A i cap) (opsL i) (opT i) (.slice none 0 0) 1 i ⟨#[97]⟩ ⟨#[]⟩ false rfl rfl rfl rfl rfl wr rfl ho.out (nilRow wr) rfl hll hz ?_)
      intro v9 w9 o9 b9
      have O9 : Hid (OwnK w.heap.size w9 v9 (opsL (i + 1))) := by unfold Hid; rw [opsL_succ]; exact o9
      have B9 : Hid (Below w.heap.size w w9) := hb.out.trans b9
      clear o9 b9 hz hll
      go_wp2_with fail
      refine ⟨⟨i + 1, v9, by omega, by go_num, rfl, O9, B9⟩, ?_⟩
      simp [intOf]
      omega
    · have hid : i = d := by omega
      have HOI : Hid (OwnK w.heap.size wr (.slice A d cap) (opsL d ++ emL d 0)) := by rw [← hid]; show OwnK _ _ _ (opsL i ++ []); rw [List.append_nil]; exact ho.out
      rw [hid] at hlt ⊢
      clear ho hi hid HLEN
      go_wp2_with fail
      have B0 := hb
      clear hb
      go_loopw [5, 7] (fun lv iv wr => ∃ (i : Nat) (v : Value), d + i ≤ n ∧ iv = .int .i64 ((d + i : Nat) : Int) ∧ lv = v ∧ Hid (OwnK w.heap.size wr v (opsL d ++ emL d i)) ∧ Hid (Below w.heap.size w wr)) (fun _ iv _ => n - (intOf iv).toNat)
      case atStart => exact ⟨0, _, by have := hn4.out; omega, rfl, rfl, HOI, B0⟩
      case round =>
        obtain ⟨i, v, hi, rfl, hv, ho, hb⟩ := hrel
        have hv2 := hv.symm
        clear hv HOI B0
        subst hv2
        obtain ⟨A, cap, hvf⟩ := ho.out.len
        subst hvf
        have hlen : (opsL d ++ emL d i).length = d + i := by simp [opsL, emL]
        rw [hlen] at ho ⊢
        have HLEN := Lib.hid hlen
        obtain ⟨q, hq⟩ : ∃ q, d + i = q := ⟨_, rfl⟩
        have HQ := Lib.hid hq
        rw [hq] at ho hi ⊢
        clear hlen hq
        by_cases hlt : q < n
        · have hz := hb.out.size
          have hll : (opsL d ++ emL d i).length ≤ 1000000000 := by rw [HLEN.out, HQ.out]; omega
          go_wp2_with (at_builtin; refine push_tokT rfl _ _ rfl w.heap.size (.slice A q cap) (opsL d ++ emL d i) (emT d i) (.slice none 0 0) 1 q ⟨#[98]⟩ ⟨#[]⟩ true rfl (by rw [← HQ.out]; rfl) rfl rfl rfl wr rfl ho.out (nilRow wr) rfl hll hz ?_)
          intro v9 w9 o9 b9
          have O9 : Hid (OwnK w.heap.size w9 v9 (opsL d ++ emL d (i + 1))) := by unfold Hid; rw [emL_succ]; exact o9
          have B9 : Hid (Below w.heap.size w w9) := hb.out.trans b9
          have HQ1 : Hid (((d + (i + 1) : Nat) : Int) = (q : Int) + 1) := by unfold Hid; have := HQ.out; omega
          clear o9 b9 hz hll
          go_wp2_with fail
          refine ⟨⟨i + 1, v9, by have := HQ.out; omega, by rw [HQ1.out], rfl, O9, B9⟩, ?_⟩
          simp [intOf]
          omega
        · have hqn : q = n := by omega
          have HDI : Hid (d + i = n) := HQ.out.trans hqn
          have HOI : Hid (OwnK w.heap.size wr (.slice A n cap) (opsL d ++ emL d i ++ clL 0)) := by rw [← hqn]; show OwnK _ _ _ (_ ++ []); rw [List.append_nil]; exact ho.out
          rw [hqn] at hlt ⊢
          clear ho hi hqn HLEN HQ
          go_wp2_with fail
          have B0 := hb
          clear hb
          go_loopw [5, 8] (fun lv iv wr => ∃ (j : Nat) (v : Value), j ≤ d ∧ iv = .int .i64 j ∧ lv = v ∧ Hid (OwnK w.heap.size wr v (opsL d ++ emL d i ++ clL j)) ∧ Hid (Below w.heap.size w wr)) (fun _ iv _ => d - (intOf iv).toNat)
          case atStart => exact ⟨0, _, Nat.zero_le _, rfl, rfl, HOI, B0⟩
          case round =>
            obtain ⟨j, v, hj, rfl, hv, ho, hb⟩ := hrel
            have hv2 := hv.symm
            clear hv HOI B0
            subst hv2
            obtain ⟨A, cap, hvf⟩ := ho.out.len
            subst hvf
            obtain ⟨ln, hln⟩ : ∃ ln, (opsL d ++ emL d i ++ clL j).length = ln := ⟨_, rfl⟩
            have hlnb : ln ≤ 2000 := by rw [← hln]; simp [opsL, emL, clL]; have := HDI.out; omega
            rw [hln] at ho ⊢
            have HLN := Lib.hid hln
            clear hln
            by_cases hlt : j < d
            · have hz := hb.out.size
              have hll : (opsL d ++ emL d i ++ clL j).length ≤ 1000000000 := by rw [HLN.out]; omega
              go_wp2_with (at_builtin; refine push_tokT rfl _ _ rfl w.heap.size (.slice A ln cap) (opsL d ++ emL d i ++ clL j) clT (.slice none 0 0) 2 0 ⟨#[97]⟩ ⟨#[]⟩ false rfl rfl rfl rfl rfl wr rfl ho.out (nilRow wr) rfl hll hz ?_)
              intro v9 w9 o9 b9
              have O9 : Hid (OwnK w.heap.size w9 v9 (opsL d ++ emL d i ++ clL (j + 1))) := by unfold Hid; rw [clL_succ, List.append_assoc]; exact o9
              have B9 : Hid (Below w.heap.size w w9) := hb.out.trans b9
              clear o9 b9 hz hll
              go_wp2_with fail
              refine ⟨⟨j + 1, v9, by omega, by go_num, rfl, O9, B9⟩, ?_⟩
              simp [intOf]
              omega
            · have hjd : j = d := by omega
              have HB0 := Lib.hid (build_any (.slice A ln cap) ((manyTs d i).map toI) wr (by
                have := ho.out
                rw [hjd] at this
                exact this.reads.readI) (by rw [List.length_map, manyTs_len]; have := HDI.out; omega) (by
                rw [bulk_zero _ (fun t ht => by
                  obtain ⟨k, hk, rfl⟩ := List.mem_map.1 ht
                  exact (manyTs_text d i k hk).1)]
                omega) (fun t ht => by
                obtain ⟨k, hk, rfl⟩ := List.mem_map.1 ht
                show k.2.2.2.2.1.length ≤ _
                rw [(manyTs_text d i k hk).2]
                simp))
              clear ho hlnb HLN
              by_cases hfull : n = 1001
              · rw [many_full hd4.out (by omega) (by rw [HDI.out]; exact hfull)] at HB0
                have hgt : decide ((n : Int) > 1000) = true := decide_eq_true (by omega)
                clear hfull hjd
                go_wp2_with fail
                refine HB0.out.mono ?_
                rintro e w1 ⟨⟨v1, rfl, o1⟩, b1⟩
                obtain ⟨A1, cap1, rfl⟩ := o1.slice
                have B1 := Lib.hid (hb.out.trans (b1.mono hb.out.size))
                clear b1 o1
                go_wp2_with fail
                refine (HA.out _ B1.out).mono ?_
                rintro e w3 ⟨rfl, b3⟩
                have B3 := Lib.hid (B1.out.trans (b3.mono B1.out.size))
                clear b3
                go_wp2_with fail
                go_ret
                exact ⟨rfl, B3.out⟩
              · rw [many_ok hd4.out (by omega) (by have := HDI.out; omega)] at HB0
                have hgt : decide ((n : Int) > 1000) = false := decide_eq_false (by omega)
                have HLE : Hid ((elsE d i).length = n) := by unfold Hid; rw [elsE_len, HDI.out]
                have hi0 : 0 < i := by have := HDI.out; have := hn4.out; omega
                obtain ⟨p, hp⟩ : ∃ p, n = p + 1 := ⟨n - 1, by have := hn4.out; omega⟩
                have HLAST : Hid ((elsE d i)[p]? = some (nodeE d (i - 1))) := by
                  unfold Hid
                  rw [show p = d + (i - 1) by have := HDI.out; omega]
                  exact elsE_top (by omega)
                have HKD := Lib.hid (fun v W (hv : ReadN W v (elsE d i)) => kids_any v (elsE d i) ((d : Int) - 1) W hv (by rw [HLE.out]; omega))
                have HKL := Lib.hid (many_kids (d := d) (m := i) hd4.out)
                have hpn : ((n : Int) - 1) = (p : Int) := by omega
                have hpw : IntKind.i64.wrap (p : Int) = (p : Int) := by rw [IntKind.wrap_i64]; omega
                have hplt : (p : Int) < (n : Int) := by omega
                have hnd : ((n : Int) - (d : Int)) = (i : Int) := by have := HDI.out; omega
                have hiw : IntKind.i64.wrap (i : Int) = (i : Int) := by rw [IntKind.wrap_i64]; have := HDI.out; omega
                have hpb : p ≤ 1000 := by omega
                obtain ⟨d1, hd1⟩ : ∃ d1 : Nat, d = d1 + 1 := ⟨d - 1, by have := hd4.out; omega⟩
                have hdd : ((d : Int) - 1) = (d1 : Int) := by omega
                have hdw : IntKind.i64.wrap (d1 : Int) = (d1 : Int) := by rw [IntKind.wrap_i64]; omega
                rw [hdd] at HKD HKL
                have HP := Lib.hid hp
                have HAT2 : Hid ((d : Int) + ((i - 1 : Nat) : Int) = (p : Int)) := by unfold Hid; have := HDI.out; omega
                have HDD := Lib.hid hdd
                clear hfull hjd hi0 hp hd1
                go_wp2_with fail
                refine HB0.out.mono ?_
                rintro e w1 ⟨⟨v1, rfl, o1⟩, b1⟩
                have B1 := Lib.hid (hb.out.trans (b1.mono hb.out.size))
                obtain ⟨g, cap1, rfl, hgl, hat⟩ := o1.at (by rw [HLE.out]; omega)
                obtain ⟨u, -, k0, k1, -⟩ := hat p _ HLAST.out
                have K0 : Hid (w1.cell? ⟨g, p * 6, none⟩ = some (.int .i64 d1)) := by unfold Hid; rw [k0]; show some (Value.int _ ((d : Int) - 1)) = _; rw [HDD.out]
                have K1 : Hid (w1.cell? ⟨g, p * 6 + 1, none⟩ = some (.int .i64 p)) := by unfold Hid; rw [k1]; show some (Value.int _ ((d : Int) + ((i - 1 : Nat) : Int))) = _; rw [HAT2.out]
                have O1 := Lib.hid o1.reads
                have HGL := Lib.hid hgl
                rw [HLE.out] at O1 ⊢
                clear b1 o1 hat k0 k1 hgl
                go_wp2_with fail
                refine (HA.out _ B1.out).mono ?_
                rintro e w3 ⟨rfl, b3⟩
                have B3 := Lib.hid (B1.out.trans (b3.mono B1.out.size))
                have HK3 := Lib.hid (HKD.out _ w3 (O1.out.below b3))
                have K03 : Hid (w3.cell? ⟨g, p * 6, none⟩ = some (.int .i64 d1)) := (b3.cell (p := ⟨g, p * 6, none⟩) HGL.out).trans K0.out
                have K13 : Hid (w3.cell? ⟨g, p * 6 + 1, none⟩ = some (.int .i64 p)) := (b3.cell (p := ⟨g, p * 6 + 1, none⟩) HGL.out).trans K1.out
                have HGL3 : Hid (g < w3.heap.size) := Nat.lt_of_lt_of_le HGL.out b3.size
                clear b3
                go_wp2_with fail
                refine HK3.out.mono ?_
                rintro e w4 ⟨⟨v4, rfl, o4⟩, b4⟩
                obtain ⟨KA, kcap, rfl⟩ := o4.slice
                rw [HKL.out]
                have c0 : w4.cell? ⟨g, p * 6, none⟩ = some (.int .i64 d1) := (b4.cell (p := ⟨g, p * 6, none⟩) HGL3.out).trans K03.out
                have c1 : w4.cell? ⟨g, p * 6 + 1, none⟩ = some (.int .i64 p) := (b4.cell (p := ⟨g, p * 6 + 1, none⟩) HGL3.out).trans K13.out
                have B4 := Lib.hid (B3.out.trans (b4.mono B3.out.size))
                clear b4 o4
                go_wp2_with fail
                go_ret
                exact ⟨rfl, B4.out⟩
end Go.Proofs.YtpomcamkkcggmaaGreatDoor
