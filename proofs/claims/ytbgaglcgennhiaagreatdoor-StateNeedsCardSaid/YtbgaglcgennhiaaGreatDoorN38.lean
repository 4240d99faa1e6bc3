import Derived.Test.YtbgaglcgennhiaaGreatDoorN37
import Derived.Test.YtbgaglcgennhiaaGreatDoorN31
section
/- what is reached of it -/
namespace Go.Proofs.YtbgaglcgennhiaaGreatDoor
open Go.RowKit Tx Vc Ct
/-- a user; beside the lists, where they lie -/
structure Usr where
  name : List UInt8
  pw : List UInt8
  items : List (Itm × Slc)
  iv : Slc
  pend : List (List UInt8)
  pv : Slc
/-- a host -/
structure Hst where
  name : List UInt8
  users : List Usr
  uv : Slc
instance : Inhabited Usr := ⟨⟨[], [], [], (none, 0, 0), [], (none, 0, 0)⟩⟩
instance : Inhabited Hst := ⟨⟨[], [], (none, 0, 0)⟩⟩
def encU (x : Usr) : List Value := [.string (bts x.name), .string (bts x.pw), sl x.iv, sl x.pv]
def encH (x : Hst) : List Value := [.string (bts x.name), sl x.uv]
/-- a slice of elements of k cells, below block B -/
def RowV {α : Type} (enc : α → List Value) (k B : Nat) (w : World) (v : Value) (l : List α) : Prop :=
  ∃ A cap, v = .slice A l.length cap ∧ (0 < l.length → ∃ b off, A = some ⟨b, off, none⟩ ∧ b < B ∧ ∀ i p, l[i]? = some p → ∀ c u, (enc p)[c]? = some u → w.cell? ⟨b, off + i * k + c, none⟩ = some u)
theorem RowV.upon {α : Type} {enc : α → List Value} {k : Nat} {w W : World} {v : Value} {l : List α} (h : RowV enc k w.heap.size w v l) (hb : Below w.heap.size w W) : RowV enc k W.heap.size W v l := by
  obtain ⟨A, cap, hv, hc⟩ := h
  refine ⟨A, cap, hv, fun h0 => ?_⟩
  obtain ⟨b, off, ha, hbb, hcc⟩ := hc h0
  exact ⟨b, off, ha, Nat.lt_of_lt_of_le hbb hb.size, fun i p hp c u hu => by rw [hb.cell (p := ⟨b, off + i * k + c, none⟩) hbb]; exact hcc i p hp c u hu⟩
def encIS (p : Itm × Slc) : List Value := encI p.1 (sl p.2)
theorem ReadI.row {B : Nat} {w : World} {v : Value} {l : List (Itm × Slc)} (h : ReadI B w v l) : RowV encIS 6 B w v l := by
  obtain ⟨A, cap, hv, hc, _⟩ := h
  exact ⟨A, cap, hv, hc⟩
theorem ReadI.of_row {B : Nat} {w : World} {v : Value} {l : List (Itm × Slc)} (h : RowV encIS 6 B w v l) (hT : ∀ p ∈ l, ReadT B w (sl p.2) (sts p.1.groups)) : ReadI B w v l := by
  obtain ⟨A, cap, hv, hc⟩ := h
  exact ⟨A, cap, hv, hc, hT⟩
/-- what a user refers to -/
def InU (w : World) (p : Usr) : Prop := ReadI w.heap.size w (sl p.iv) p.items ∧ ReadT w.heap.size w (sl p.pv) (sts p.pend)
theorem InU.upon {w W : World} {p : Usr} (h : InU w p) (hb : Below w.heap.size w W) : InU W p := ⟨h.1.upon hb, h.2.upon hb⟩
def ReadU (w : World) (v : Value) (l : List Usr) : Prop := RowV encU 4 w.heap.size w v l ∧ ∀ p ∈ l, InU w p
theorem ReadU.upon {w W : World} {v : Value} {l : List Usr} (h : ReadU w v l) (hb : Below w.heap.size w W) : ReadU W v l := ⟨h.1.upon hb, fun p hp => (h.2 p hp).upon hb⟩
def ReadH (w : World) (v : Value) (l : List Hst) : Prop := RowV encH 2 w.heap.size w v l ∧ ∀ p ∈ l, ReadU w (sl p.uv) p.users
theorem ReadH.upon {w W : World} {v : Value} {l : List Hst} (h : ReadH w v l) (hb : Below w.heap.size w W) : ReadH W v l := ⟨h.1.upon hb, fun p hp => (h.2 p hp).upon hb⟩

/-- the i-th fits, and is above the one ahead -/
def stepK {α : Type} [Inhabited α] (lt : α → α → Bool) (ok : α → Bool) (l : List α) (i : Nat) : Bool := (decide (i = 0) || lt l[i - 1]! l[i]!) && ok l[i]!
def rightK {α : Type} [Inhabited α] (most : Nat) (lt : α → α → Bool) (ok : α → Bool) (l : List α) : Bool := decide (l.length ≤ most) && (List.range l.length).all (stepK lt ok l)
theorem rightK_no {α : Type} [Inhabited α] {most : Nat} {lt : α → α → Bool} {ok : α → Bool} {l : List α} (i : Nat) (hi : i < l.length) (h : stepK lt ok l i = false) : rightK most lt ok l = false := by
  have : (List.range l.length).all (stepK lt ok l) = false := List.all_eq_false.2 ⟨i, List.mem_range.2 hi, by rw [h]; decide⟩
  unfold rightK
  rw [this, Bool.and_false]
theorem rightK_yes {α : Type} [Inhabited α] {most : Nat} {lt : α → α → Bool} {ok : α → Bool} {l : List α} (hm : l.length ≤ most) (h : ∀ i, i < l.length → stepK lt ok l i = true) : rightK most lt ok l = true := by
  unfold rightK
  rw [decide_eq_true hm, Bool.true_and]
  exact List.all_eq_true.2 fun i hi => h i (List.mem_range.1 hi)
theorem rightK_many {α : Type} [Inhabited α] {most : Nat} {lt : α → α → Bool} {ok : α → Bool} {l : List α} (hm : most < l.length) : rightK most lt ok l = false := by
  unfold rightK
  rw [decide_eq_false (by omega)]
  rfl
theorem rightK_one {α : Type} [Inhabited α] {most : Nat} {lt : α → α → Bool} {ok : α → Bool} (x : α) (hm : 1 ≤ most) : rightK most lt ok [x] = ok x := by
  unfold rightK
  rw [decide_eq_true (by simpa using hm)]
  simp [stepK, List.range_succ]
theorem rightK_two {α : Type} [Inhabited α] {most : Nat} {lt : α → α → Bool} {ok : α → Bool} (x y : α) (hm : 2 ≤ most) : rightK most lt ok [x, y] = (ok x && (lt x y && ok y)) := by
  unfold rightK
  rw [decide_eq_true (by simpa using hm)]
  simp [stepK, List.range_succ]
def domB (s : List UInt8) : Bool := decide (Jd.domL s = (s, 0))
def nodeB (s : List UInt8) : Bool := decide (Pr.prepL 1 s = (s, 0)) && !decide (s = []) && decide (s.length ≤ 64)
def letB (x : Itm) : Bool := decide (x.sub = 2) || decide (x.sub = 3) || x.app
def ltIS (p q : Itm × Slc) : Bool := Jd.lessL p.1.jid q.1.jid
def okIS (p : Itm × Slc) : Bool := rightI p.1
def waitB (u : Usr) (p : Itm × Slc) : Bool := letB p.1 && decide (p.1.jid ∈ u.pend)
def fitU (u : Usr) : Bool := nodeB u.name && line u.pw 100 && rightK 60 ltIS okIS u.items && rightK 60 Jd.lessL addrB u.pend && !u.items.any (waitB u)
def ltU (x y : Usr) : Bool := Jd.ltL x.name y.name
def ltH (x y : Hst) : Bool := Jd.ltL x.name y.name
def rightU (l : List Usr) : Bool := rightK 20 ltU fitU l
def fitH (h : Hst) : Bool := domB h.name && rightU h.users
def rightS (l : List Hst) : Bool := rightK 5 ltH fitH l

structure SmI (x : Itm) : Prop where
  jid : x.jid.length ≤ 100000000
  name : x.name.length ≤ 100000000
  groups : x.groups.length ≤ 1000000
  each : ∀ g ∈ x.groups, g.length ≤ 100000000
structure SmU (u : Usr) : Prop where
  name : u.name.length ≤ 100000000
  pw : u.pw.length ≤ 100000000
  items : u.items.length ≤ 1000000
  eachI : ∀ p ∈ u.items, SmI p.1
  pend : u.pend.length ≤ 1000000
  eachP : ∀ t ∈ u.pend, t.length ≤ 100000000
structure SmH (h : Hst) : Prop where
  name : h.name.length ≤ 100000000
  users : h.users.length ≤ 1000000
  each : ∀ u ∈ h.users, SmU u
end Go.Proofs.YtbgaglcgennhiaaGreatDoor
end
section
/- what is reached of it -/
namespace Go.Proofs.YtbgaglcgennhiaaGreatDoor
open Tx Vc Ct
theorem se_dom_h : Jd.domL [104] = ([104], 0) := Jd.dom_of (Jd.fit_prep (by decide)) (by decide) (by decide) (by decide)
theorem se_domB_h : domB [104] = true := decide_eq_true se_dom_h
theorem se_domB_H : domB [72] = false := by
  have h : Jd.domL [72] = ([104], 0) := (Jd.dom_eval (Jd.low_keep (l := [72]) (r := [104]) (by decide) (by decide) (by decide) (by decide) (by decide)) (show Jd.trimD _ = [104] by decide)).trans (by decide)
  refine decide_eq_false fun e => ?_
  rw [h] at e
  exact absurd (congrArg Prod.fst e) (by decide)
theorem se_fit {k : Nat} {n : List UInt8} (h : n.all (Jd.fitB k) = true) : Pr.prepL k n = (n, 0) := Jd.fit_prep (List.all_eq_true.1 h)
theorem se_node {n : List UInt8} (h : n.all (Jd.fitB 1) = true) (h0 : n ≠ []) (hl : n.length ≤ 64) : nodeB n = true := by
  unfold nodeB
  rw [se_fit h, decide_eq_true rfl, decide_eq_false h0, decide_eq_true hl]
  rfl
theorem se_node_A : nodeB [65] = false := by
  have h : Pr.prepL 1 [65] = ([97], 0) := Jd.low_keep (l := [65]) (r := [97]) (by decide) (by decide) (by decide) (by decide) (by decide)
  unfold nodeB
  rw [h, decide_eq_false (fun e => absurd (congrArg Prod.fst e) (by decide))]
  rfl
theorem se_node_nil : nodeB [] = false := by
  unfold nodeB
  rw [decide_eq_true (rfl : ([] : List UInt8) = []), Bool.not_true, Bool.and_false]
  rfl
theorem se_part {n : List UInt8} (h : n.all (Jd.fitB 1) = true) (h0 : n ≠ []) (hl : n.length ≤ 64) : Jd.part true 1 n = (n, 0) := by
  show Jd.sizedL 64 (Pr.prepL 1 n) = _
  rw [se_fit h]
  exact Jd.sized_of h0 hl
/-- n@h -/
theorem se_addr {n : List UInt8} (h : n.all (Jd.fitB 1) = true) (h0 : n ≠ []) (hl : n.length ≤ 64) (hc : Jd.cutB 47 (n ++ [64, 104]) = (n ++ [64, 104], [], false)) (hd : Jd.halfL (n ++ [64, 104]) = (n, [104], true)) : addrB (n ++ [64, 104]) = true := by
  have hp : Jd.parseL (n ++ [64, 104]) = ((n, [104], []), 0) := by
    rw [iparse_eq hc hd]
    simp only
    rw [se_dom_h, se_part h h0 hl]
    rfl
  refine decide_eq_true ?_
  rw [Jd.bare_ok hp rfl]
  unfold Jd.textL
  simp [h0]
theorem se_addr_D : addrB [68, 64, 104] = false := by
  have hn : Jd.part true 1 [68] = ([100], 0) := by
    show Jd.sizedL 64 (Pr.prepL 1 [68]) = _
    rw [Jd.low_keep (l := [68]) (r := [100]) (by decide) (by decide) (by decide) (by decide) (by decide)]
    decide
  have hp : Jd.parseL [68, 64, 104] = (([100], [104], []), 0) := by
    rw [iparse_eq (s := [68, 64, 104]) (c := ([68, 64, 104], [], false)) (d := ([68], [104], true)) (by decide) (by decide)]
    simp only
    rw [se_dom_h, hn]
    rfl
  refine decide_eq_false fun e => ?_
  rw [Jd.bare_ok hp rfl] at e
  exact absurd (congrArg Prod.fst e) (by decide)
theorem se_less_irr (a : List UInt8) : Jd.lessL a a = false := by
  unfold Jd.lessL
  rw [Jd.lt_irr, Jd.lt_irr, Bool.and_false]
  rfl
def seI (j : List UInt8) (s : Int) (ask app : Bool) : Itm := ⟨j, [], [], s, ask, app⟩
theorem se_right (j : List UInt8) (s : Int) (ask app : Bool) : rightI (seI j s ask app) = (addrB j && subB s ask app) := by
  have h2 : line ([] : List UInt8) 100 = true := by decide +kernel
  have h3 : grpB [] = true := by decide +kernel
  show (addrB j && line ([] : List UInt8) 100 && grpB [] && subB s ask app) = _
  rw [h2, h3, Bool.and_true, Bool.and_true]
theorem se_b : addrB [98, 64, 104] = true := se_addr (n := [98]) (by decide) (by decide) (by decide) (by decide) (by decide)
theorem se_c : addrB [99, 64, 104] = true := se_addr (n := [99]) (by decide) (by decide) (by decide) (by decide) (by decide)
theorem se_d : addrB [100, 64, 104] = true := se_addr (n := [100]) (by decide) (by decide) (by decide) (by decide) (by decide)
theorem se_r : addrB [98, 64, 104, 47, 114] = false := addr_slash [98, 64, 104] [114]
theorem se_p : line [112] 100 = true := by decide +kernel
theorem se_nl : line [97, 10, 98] 100 = false := by decide +kernel
theorem se_na : nodeB [97] = true := se_node (by decide) (by decide) (by decide)
theorem se_items (a b : Itm × Slc) : rightK 60 ltIS okIS [a, b] = (rightI a.1 && (Jd.lessL a.1.jid b.1.jid && rightI b.1)) := rightK_two a b (by decide)
theorem se_host (n : List UInt8) (u : Usr) (q : Slc) : rightS [⟨n, [u], q⟩] = (domB n && fitU u) := by
  unfold rightS
  rw [rightK_one _ (by decide)]
  unfold fitH rightU
  dsimp only
  rw [rightK_one _ (by decide)]
theorem se_hosts (n m : List UInt8) (us vs : List Usr) (q r : Slc) (h : Jd.ltL n m = false) : rightS [⟨n, us, q⟩, ⟨m, vs, r⟩] = false := by
  unfold rightS
  rw [rightK_two _ _ (by decide)]
  unfold ltH
  dsimp only
  rw [h, Bool.false_and, Bool.and_false]
theorem se_users (n : List UInt8) (u v : Usr) (q : Slc) (h : Jd.ltL u.name v.name = false) : rightS [⟨n, [u, v], q⟩] = false := by
  unfold rightS
  rw [rightK_one _ (by decide)]
  unfold fitH rightU
  dsimp only
  rw [rightK_two _ _ (by decide)]
  unfold ltU
  rw [h, Bool.false_and, Bool.and_false, Bool.and_false]
theorem se_fitU (n pw : List UInt8) (is : List (Itm × Slc)) (iv : Slc) (ps : List (List UInt8)) (pv : Slc) : fitU ⟨n, pw, is, iv, ps, pv⟩ = (nodeB n && line pw 100 && rightK 60 ltIS okIS is && rightK 60 Jd.lessL addrB ps && !is.any (fun p => letB p.1 && decide (p.1.jid ∈ ps))) := rfl
/-- the user that the laws turn -/
def oneU (n pw j0 j1 : List UInt8) (app : Bool) (ps : List (List UInt8)) (q0 q1 iv pv : Slc) : Usr := ⟨n, pw, [(seI j0 0 false false, q0), (seI j1 2 false app, q1)], iv, ps, pv⟩
theorem se_oneU (n pw j0 j1 : List UInt8) (app : Bool) (ps : List (List UInt8)) (q0 q1 iv pv : Slc) : fitU (oneU n pw j0 j1 app ps q0 q1 iv pv) = (nodeB n && line pw 100 && (addrB j0 && (Jd.lessL j0 j1 && (addrB j1 && !app))) && rightK 60 Jd.lessL addrB ps && !decide (j1 ∈ ps)) := by
  unfold oneU
  rw [se_fitU, se_items, se_right, se_right]
  have h1 : subB 0 false false = true := rfl
  have h2 : subB 2 false app = !app := by cases app <;> rfl
  rw [h1, h2, Bool.and_true]
  have h3 : ([(seI j0 0 false false, q0), (seI j1 2 false app, q1)].any fun p => letB p.1 && decide (p.1.jid ∈ ps)) = decide (j1 ∈ ps) := by
    simp [letB, seI]
  rw [h3]
  rfl
theorem se_one_right (q0 q1 iv pv uv : Slc) : rightS [⟨[104], [oneU [97] [112] [98, 64, 104] [99, 64, 104] false [[100, 64, 104]] q0 q1 iv pv], uv⟩] = true := by
  rw [se_host, se_domB_h, se_oneU, se_na, se_p, se_b, se_c, rightK_one _ (by decide), se_d]
  decide +kernel
end Go.Proofs.YtbgaglcgennhiaaGreatDoor
end
