import Derived.Test.YtfbdnaclkfmiaaaGreatDoorG34
import Derived.Test.YtfbdnaclkfmiaaaGreatDoorG35
import Derived.Laws.EntriesVeiled
import Derived.Test.YtfbdnaclkfmiaaaGreatDoorG17
import Derived.Deep.RegionWith
import Derived.Deep.RegionLaw
import Derived.Deep.QuietTactic
import Derived.BigQuiet
section
/- what is reached of it -/
namespace Go.Proofs.YtfbdnaclkfmiaaaGreatDoor
open Go.RowKit Vc Ct
/-- the function that tells a kind's field; its place in a contact -/
def fieldF : Nat → Nat
  | 0 => 65
  | 2 => 68
  | 4 => 71
  | 5 => 72
  | 7 => 75
  | _ => 76
def isT (i : Nat) : Bool := i != 1 && i != 3 && i != 6
def putV (b : Nat → Nat) : Nat → Value
  | 1 => .func (.func 66) #[] #[]
  | 3 => .func (.func 69) #[] #[]
  | 6 => .func (.func 73) #[] #[]
  | i => .func (.func 105) #[] #[.pointer (some ⟨b i, 0, none⟩)]
def textsV (b : Nat → Nat) : Nat → Value
  | 1 => .func (.func 67) #[] #[]
  | 3 => .func (.func 70) #[] #[]
  | 6 => .func (.func 74) #[] #[]
  | i => .func (.func 106) #[] #[.pointer (some ⟨b i, 0, none⟩)]
/-- a kind's five cells -/
def encK (b : Nat → Nat) (i : Nat) : List Value := [.string (bts (kname i)), .string (bts (kstart i)), .string (bts (ksep i)), putV b i, textsV b i]
theorem encK_len (b : Nat → Nat) (i : Nat) : (encK b i).length = 5 := rfl
/-- what the kinds' functions have taken along -/
def KindsAt (b : Nat → Nat) (w : World) : Prop := ∀ i, i < 9 → isT i = true → Bk w (b i) 103 #[.func (.func (fieldF i)) #[] #[]]
theorem KindsAt.below {b : Nat → Nat} {w w' : World} (h : KindsAt b w) (hb : Below w.heap.size w w') : KindsAt b w' := fun i hi ht => (h i hi ht).below hb (h i hi ht).lt
set_option maxHeartbeats 1000000 in
theorem ctText_any (n : ByteArray) (F : Nat) (w : World) :
    Calls Tryz.prog 64 #[.string n, .func (.func F) #[] #[]] w fun e w' => e = .returned (.agg #[.string n, .string ⟨#[]⟩, .string ⟨#[]⟩, .func (.func 105) #[] #[.pointer (some ⟨w.heap.size, 0, none⟩)], .func (.func 106) #[] #[.pointer (some ⟨w.heap.size, 0, none⟩)]]) ∧
      Bk w' w.heap.size 103 #[.func (.func F) #[] #[]] ∧ Below w.heap.size w w' := by
  go_enter Tryz.func64, Tryz.ntmps64
  go_wp2_with fail
  obtain ⟨W2, hW2⟩ : ∃ W2, (w.alloc (.cells #[.func (.func F) #[] #[]] 103)).alloc (.cells #[.string n, .string ⟨#[]⟩, .string ⟨#[]⟩, .func (.func 105) #[] #[.pointer (some ⟨w.heap.size, 0, none⟩)], .func (.func 106) #[] #[.pointer (some ⟨w.heap.size, 0, none⟩)]] 64) = W2 := ⟨_, rfl⟩
  have k2 : Bk W2 (w.heap.size + 1) 64 #[.string n, .string ⟨#[]⟩, .string ⟨#[]⟩, .func (.func 105) #[] #[.pointer (some ⟨w.heap.size, 0, none⟩)], .func (.func 106) #[] #[.pointer (some ⟨w.heap.size, 0, none⟩)]] := by rw [← hW2]; exact Bk.new1 _ _ _ _
  have k1 : Bk W2 w.heap.size 103 #[.func (.func F) #[] #[]] := by rw [← hW2]; exact (Bk.new _ _ _).alloc _
  have b2 : Below w.heap.size w W2 := by rw [← hW2]; exact ((Below.refl _ w).alloc (Nat.le_refl _) _).alloc (by simp) _
  have q0 := k2.cell 0
  have q1 := k2.cell 1
  have q2 := k2.cell 2
  have q3 := k2.cell 3
  have q4 := k2.cell 4
  rw [hW2]
  refine bodyPost_ret (v := .agg #[.string n, .string ⟨#[]⟩, .string ⟨#[]⟩, .func (.func 105) #[] #[.pointer (some ⟨w.heap.size, 0, none⟩)], .func (.func 106) #[] #[.pointer (some ⟨w.heap.size, 0, none⟩)]]) (by simp [results, Tryz.results64, go_sem, q0, q1, q2, q3, q4]) rfl ⟨rfl, k1, b2⟩
/-- what kinds answers -/
def KindsV (B : Nat) (e : Ending) (w' : World) : Prop := ∃ (b : Nat → Nat) (gk : Nat), e = .returned (.slice (some ⟨gk, 0, none⟩) 9 9) ∧ B ≤ gk ∧ Bk w' gk 64 ((allK.flatMap (encK b)).toArray) ∧ KindsAt b w' ∧ ∀ i, i < 9 → isT i = true → B ≤ b i
set_option maxHeartbeats 4000000 in
set_option maxRecDepth 100000 in
theorem kinds_any (w : World) : Calls Tryz.prog 29 #[] w fun e w' => KindsV w.heap.size e w' ∧ Below w.heap.size w w' := by
  go_enter Tryz.func29, Tryz.ntmps29
  go_wp2_with fail
  refine (ctText_any _ _ _).mono ?_
  rintro e w0 ⟨rfl, k0, b0⟩
  have K0 := Lib.hid k0
  have B0 := Lib.hid b0
  clear k0 b0
  go_wp2_with fail
  refine (ctText_any _ _ _).mono ?_
  rintro e w1 ⟨rfl, k1, b1⟩
  have K1 := Lib.hid k1
  have B1 := Lib.hid b1
  clear k1 b1
  go_wp2_with fail
  refine (ctText_any _ _ _).mono ?_
  rintro e w2 ⟨rfl, k2, b2⟩
  have K2 := Lib.hid k2
  have B2 := Lib.hid b2
  clear k2 b2
  go_wp2_with fail
  refine (ctText_any _ _ _).mono ?_
  rintro e w3 ⟨rfl, k3, b3⟩
  have K3 := Lib.hid k3
  have B3 := Lib.hid b3
  clear k3 b3
  go_wp2_with fail
  refine (ctText_any _ _ _).mono ?_
  rintro e w4 ⟨rfl, k4, b4⟩
  have K4 := Lib.hid k4
  have B4 := Lib.hid b4
  clear k4 b4
  go_wp2_with fail
  refine (ctText_any _ _ _).mono ?_
  rintro e w5 ⟨rfl, k5, b5⟩
  have K5 := Lib.hid k5
  have B5 := Lib.hid b5
  clear k5 b5
  go_wp2_with fail
  go_ret
  obtain ⟨b, hb⟩ : ∃ b : Nat → Nat, b = fun i => if i = 0 then w.heap.size else if i = 2 then w0.heap.size else if i = 4 then w1.heap.size else if i = 5 then w2.heap.size else if i = 7 then w3.heap.size else w4.heap.size := ⟨_, rfl⟩
  have z0 := B0.out.size
  have z1 := B1.out.size
  have z2 := B2.out.size
  have z3 := B3.out.size
  have z4 := B4.out.size
  have z5 := B5.out.size
  have c1 := B1.out
  have c2 := c1.trans (B2.out.mono z1)
  have c3 := c2.trans (B3.out.mono (by omega))
  have c4 := c3.trans (B4.out.mono (by omega))
  have c5 := c4.trans (B5.out.mono (by omega))
  refine ⟨⟨b, w5.heap.size, rfl, by omega, ?_, ?_, ?_⟩, ((B0.out.trans (c5.mono z0)).alloc (by omega) _)⟩
  · subst hb
    exact Bk.new _ _ _
  · intro i hi ht
    refine Bk.alloc ?_ _
    have d5 := B5.out
    have d4 := B4.out.trans (d5.mono z4)
    have d3 := B3.out.trans (d4.mono z3)
    have d2 := B2.out.trans (d3.mono z2)
    rcases kcases hi with rfl | rfl | rfl | rfl | rfl | rfl | rfl | rfl | rfl
    · subst hb; exact K0.out.below c5 K0.out.lt
    · cases ht
    · subst hb; exact K1.out.below d2 K1.out.lt
    · cases ht
    · subst hb; exact K2.out.below d3 K2.out.lt
    · subst hb; exact K3.out.below d4 K3.out.lt
    · cases ht
    · subst hb; exact K4.out.below d5 K4.out.lt
    · subst hb; exact K5.out
  · intro i hi ht
    rcases kcases hi with rfl | rfl | rfl | rfl | rfl | rfl | rfl | rfl | rfl <;> subst hb <;> first | (cases ht; done) | (simp; omega) | simp
end Go.Proofs.YtfbdnaclkfmiaaaGreatDoor
end
section
/- what is reached of it -/
namespace Go.Proofs.YtfbdnaclkfmiaaaGreatDoor
open Go.RowKit Vc Ct
/-- a kind's place in a contact -/
def fieldO : Nat → Nat
  | 0 => 0
  | 2 => 3
  | 4 => 5
  | 5 => 6
  | 7 => 7
  | _ => 8
theorem grown_setD (w : World) {g : Nat} (o : Nat) (u : Value) (row : Nat) (hr : row = g := by rfl) : w.grownBy ((w.setCell ⟨g, o, none⟩ u).drew) (some row) := by
  subst hr
  have h := grown_set (w := w) (b := row) (o := o) u
  exact ⟨h.os, h.tape, h.output, h.size, h.block⟩
set_option maxHeartbeats 1000000 in
theorem field_any {i : Nat} (hi : i < 9) (ht : isT i = true) (g : Nat) (w : World) : Calls Tryz.prog (fieldF i) #[.pointer (some ⟨g, 0, none⟩)] w fun e w' => e = .returned (.pointer (some ⟨g, fieldO i, none⟩)) ∧ w' = w := by
  rcases kcases hi with rfl | rfl | rfl | rfl | rfl | rfl | rfl | rfl | rfl
  · show Calls Tryz.prog 65 _ _ _
    go_enter Tryz.func65, Tryz.ntmps65
    go_wp2_with fail
    go_ret
    exact ⟨rfl, rfl⟩
  · cases ht
  · show Calls Tryz.prog 68 _ _ _
    go_enter Tryz.func68, Tryz.ntmps68
    go_wp2_with fail
    go_ret
    exact ⟨rfl, rfl⟩
  · cases ht
  · show Calls Tryz.prog 71 _ _ _
    go_enter Tryz.func71, Tryz.ntmps71
    go_wp2_with fail
    go_ret
    exact ⟨rfl, rfl⟩
  · show Calls Tryz.prog 72 _ _ _
    go_enter Tryz.func72, Tryz.ntmps72
    go_wp2_with fail
    go_ret
    exact ⟨rfl, rfl⟩
  · cases ht
  · show Calls Tryz.prog 75 _ _ _
    go_enter Tryz.func75, Tryz.ntmps75
    go_wp2_with fail
    go_ret
    exact ⟨rfl, rfl⟩
  · show Calls Tryz.prog 76 _ _ _
    go_enter Tryz.func76, Tryz.ntmps76
    go_wp2_with fail
    go_ret
    exact ⟨rfl, rfl⟩
/-- What becomes of a contact whose kind has been put in: err 0, the cells, all other blocks as they were. -/
def PutV (g : Nat) (c : Con) (gv o : Value) (W : World) (e : Ending) (W' : World) : Prop := e = .returned (.int .i64 0) ∧ Bk W' g 25 (conCells c gv o) ∧ W.grownBy W' (some g)
set_option maxHeartbeats 1000000 in
theorem putText0 (b : Nat) (g : Nat) (c : Con) (gv o : Value) (ta : Addr) (cap : Nat) (x : List UInt8) (W : World) (hk : Bk W g 25 (conCells c gv o)) (hb : Bk W b 103 #[.func (.func (fieldF 0)) #[] #[]]) (hx : W.cell? ta = some (.string (bts x))) :
    Calls Tryz.prog 105 #[.pointer (some ⟨g, 0, none⟩), .slice (some ta) 1 cap, .pointer (some ⟨b, 0, none⟩)] W (PutV g (setC (kname 0) x c) gv o W) := by
  have hb0 : W.cell? ⟨b, 0, none⟩ = some (.func (.func 65) #[] #[]) := hb.cell 0
  obtain ⟨X, hX⟩ : ∃ X, bts x = X := ⟨_, rfl⟩
  have HS : Hid ((conCells c gv o).setIfInBounds 0 (.string X) = conCells (setC (kname 0) x c) gv o) := by rw [← hX]; rfl
  have HC : Hid (∀ w, Calls Tryz.prog 65 #[.pointer (some ⟨g, 0, none⟩)] w fun e w' => e = .returned (.pointer (some ⟨g, 0, none⟩)) ∧ w' = w) := fun w => field_any (i := 0) (by omega) rfl g w
  rw [hX] at hx
  have HK := Lib.hid hk
  have hfz : W.frozen? ⟨g, 0, none⟩ = false := hk.free 0
  have hcl : W.cell? ⟨g, 0, none⟩ = some (.string (bts c.name)) := hk.cell 0
  clear hk hX
  go_enter Tryz.func105, Tryz.ntmps105
  go_wp2_with fail
  go_region_with ((go_at_call 65; refine (HC.out _).mono ?_; rintro e w1 ⟨rfl, rfl⟩))
  all_goals
    go_wp2_with fail
    go_ret
    have k9 := HK.out.put 0 (.string X)
    rw [HS.out] at k9
    exact ⟨rfl, k9, grown_setD _ 0 _ g⟩
set_option maxHeartbeats 1000000 in
theorem putText2 (b : Nat) (g : Nat) (c : Con) (gv o : Value) (ta : Addr) (cap : Nat) (x : List UInt8) (W : World) (hk : Bk W g 25 (conCells c gv o)) (hb : Bk W b 103 #[.func (.func (fieldF 2)) #[] #[]]) (hx : W.cell? ta = some (.string (bts x))) :
    Calls Tryz.prog 105 #[.pointer (some ⟨g, 0, none⟩), .slice (some ta) 1 cap, .pointer (some ⟨b, 0, none⟩)] W (PutV g (setC (kname 2) x c) gv o W) := by
  have hb0 : W.cell? ⟨b, 0, none⟩ = some (.func (.func 68) #[] #[]) := hb.cell 0
  obtain ⟨X, hX⟩ : ∃ X, bts x = X := ⟨_, rfl⟩
  have HS : Hid ((conCells c gv o).setIfInBounds 3 (.string X) = conCells (setC (kname 2) x c) gv o) := by rw [← hX]; rfl
  have HC : Hid (∀ w, Calls Tryz.prog 68 #[.pointer (some ⟨g, 0, none⟩)] w fun e w' => e = .returned (.pointer (some ⟨g, 3, none⟩)) ∧ w' = w) := fun w => field_any (i := 2) (by omega) rfl g w
  rw [hX] at hx
  have HK := Lib.hid hk
  have hfz : W.frozen? ⟨g, 3, none⟩ = false := hk.free 3
  have hcl : W.cell? ⟨g, 3, none⟩ = some (.string (bts c.nick)) := hk.cell 3
  clear hk hX
  go_enter Tryz.func105, Tryz.ntmps105
  go_wp2_with fail
  go_region_with ((go_at_call 68; refine (HC.out _).mono ?_; rintro e w1 ⟨rfl, rfl⟩))
  all_goals
    go_wp2_with fail
    go_ret
    have k9 := HK.out.put 3 (.string X)
    rw [HS.out] at k9
    exact ⟨rfl, k9, grown_setD _ 3 _ g⟩
set_option maxHeartbeats 1000000 in
theorem putText4 (b : Nat) (g : Nat) (c : Con) (gv o : Value) (ta : Addr) (cap : Nat) (x : List UInt8) (W : World) (hk : Bk W g 25 (conCells c gv o)) (hb : Bk W b 103 #[.func (.func (fieldF 4)) #[] #[]]) (hx : W.cell? ta = some (.string (bts x))) :
    Calls Tryz.prog 105 #[.pointer (some ⟨g, 0, none⟩), .slice (some ta) 1 cap, .pointer (some ⟨b, 0, none⟩)] W (PutV g (setC (kname 4) x c) gv o W) := by
  have hb0 : W.cell? ⟨b, 0, none⟩ = some (.func (.func 71) #[] #[]) := hb.cell 0
  obtain ⟨X, hX⟩ : ∃ X, bts x = X := ⟨_, rfl⟩
  have HS : Hid ((conCells c gv o).setIfInBounds 5 (.string X) = conCells (setC (kname 4) x c) gv o) := by rw [← hX]; rfl
  have HC : Hid (∀ w, Calls Tryz.prog 71 #[.pointer (some ⟨g, 0, none⟩)] w fun e w' => e = .returned (.pointer (some ⟨g, 5, none⟩)) ∧ w' = w) := fun w => field_any (i := 4) (by omega) rfl g w
  rw [hX] at hx
  have HK := Lib.hid hk
  have hfz : W.frozen? ⟨g, 5, none⟩ = false := hk.free 5
  have hcl : W.cell? ⟨g, 5, none⟩ = some (.string (bts c.email)) := hk.cell 5
  clear hk hX
  go_enter Tryz.func105, Tryz.ntmps105
  go_wp2_with fail
  go_region_with ((go_at_call 71; refine (HC.out _).mono ?_; rintro e w1 ⟨rfl, rfl⟩))
  all_goals
    go_wp2_with fail
    go_ret
    have k9 := HK.out.put 5 (.string X)
    rw [HS.out] at k9
    exact ⟨rfl, k9, grown_setD _ 5 _ g⟩
set_option maxHeartbeats 1000000 in
theorem putText5 (b : Nat) (g : Nat) (c : Con) (gv o : Value) (ta : Addr) (cap : Nat) (x : List UInt8) (W : World) (hk : Bk W g 25 (conCells c gv o)) (hb : Bk W b 103 #[.func (.func (fieldF 5)) #[] #[]]) (hx : W.cell? ta = some (.string (bts x))) :
    Calls Tryz.prog 105 #[.pointer (some ⟨g, 0, none⟩), .slice (some ta) 1 cap, .pointer (some ⟨b, 0, none⟩)] W (PutV g (setC (kname 5) x c) gv o W) := by
  have hb0 : W.cell? ⟨b, 0, none⟩ = some (.func (.func 72) #[] #[]) := hb.cell 0
  obtain ⟨X, hX⟩ : ∃ X, bts x = X := ⟨_, rfl⟩
  have HS : Hid ((conCells c gv o).setIfInBounds 6 (.string X) = conCells (setC (kname 5) x c) gv o) := by rw [← hX]; rfl
  have HC : Hid (∀ w, Calls Tryz.prog 72 #[.pointer (some ⟨g, 0, none⟩)] w fun e w' => e = .returned (.pointer (some ⟨g, 6, none⟩)) ∧ w' = w) := fun w => field_any (i := 5) (by omega) rfl g w
  rw [hX] at hx
  have HK := Lib.hid hk
  have hfz : W.frozen? ⟨g, 6, none⟩ = false := hk.free 6
  have hcl : W.cell? ⟨g, 6, none⟩ = some (.string (bts c.tel)) := hk.cell 6
  clear hk hX
  go_enter Tryz.func105, Tryz.ntmps105
  go_wp2_with fail
  go_region_with ((go_at_call 72; refine (HC.out _).mono ?_; rintro e w1 ⟨rfl, rfl⟩))
  all_goals
    go_wp2_with fail
    go_ret
    have k9 := HK.out.put 6 (.string X)
    rw [HS.out] at k9
    exact ⟨rfl, k9, grown_setD _ 6 _ g⟩
set_option maxHeartbeats 1000000 in
theorem putText7 (b : Nat) (g : Nat) (c : Con) (gv o : Value) (ta : Addr) (cap : Nat) (x : List UInt8) (W : World) (hk : Bk W g 25 (conCells c gv o)) (hb : Bk W b 103 #[.func (.func (fieldF 7)) #[] #[]]) (hx : W.cell? ta = some (.string (bts x))) :
    Calls Tryz.prog 105 #[.pointer (some ⟨g, 0, none⟩), .slice (some ta) 1 cap, .pointer (some ⟨b, 0, none⟩)] W (PutV g (setC (kname 7) x c) gv o W) := by
  have hb0 : W.cell? ⟨b, 0, none⟩ = some (.func (.func 75) #[] #[]) := hb.cell 0
  obtain ⟨X, hX⟩ : ∃ X, bts x = X := ⟨_, rfl⟩
  have HS : Hid ((conCells c gv o).setIfInBounds 7 (.string X) = conCells (setC (kname 7) x c) gv o) := by rw [← hX]; rfl
  have HC : Hid (∀ w, Calls Tryz.prog 75 #[.pointer (some ⟨g, 0, none⟩)] w fun e w' => e = .returned (.pointer (some ⟨g, 7, none⟩)) ∧ w' = w) := fun w => field_any (i := 7) (by omega) rfl g w
  rw [hX] at hx
  have HK := Lib.hid hk
  have hfz : W.frozen? ⟨g, 7, none⟩ = false := hk.free 7
  have hcl : W.cell? ⟨g, 7, none⟩ = some (.string (bts c.note)) := hk.cell 7
  clear hk hX
  go_enter Tryz.func105, Tryz.ntmps105
  go_wp2_with fail
  go_region_with ((go_at_call 75; refine (HC.out _).mono ?_; rintro e w1 ⟨rfl, rfl⟩))
  all_goals
    go_wp2_with fail
    go_ret
    have k9 := HK.out.put 7 (.string X)
    rw [HS.out] at k9
    exact ⟨rfl, k9, grown_setD _ 7 _ g⟩
set_option maxHeartbeats 1000000 in
theorem putText8 (b : Nat) (g : Nat) (c : Con) (gv o : Value) (ta : Addr) (cap : Nat) (x : List UInt8) (W : World) (hk : Bk W g 25 (conCells c gv o)) (hb : Bk W b 103 #[.func (.func (fieldF 8)) #[] #[]]) (hx : W.cell? ta = some (.string (bts x))) :
    Calls Tryz.prog 105 #[.pointer (some ⟨g, 0, none⟩), .slice (some ta) 1 cap, .pointer (some ⟨b, 0, none⟩)] W (PutV g (setC (kname 8) x c) gv o W) := by
  have hb0 : W.cell? ⟨b, 0, none⟩ = some (.func (.func 76) #[] #[]) := hb.cell 0
  obtain ⟨X, hX⟩ : ∃ X, bts x = X := ⟨_, rfl⟩
  have HS : Hid ((conCells c gv o).setIfInBounds 8 (.string X) = conCells (setC (kname 8) x c) gv o) := by rw [← hX]; rfl
  have HC : Hid (∀ w, Calls Tryz.prog 76 #[.pointer (some ⟨g, 0, none⟩)] w fun e w' => e = .returned (.pointer (some ⟨g, 8, none⟩)) ∧ w' = w) := fun w => field_any (i := 8) (by omega) rfl g w
  rw [hX] at hx
  have HK := Lib.hid hk
  have hfz : W.frozen? ⟨g, 8, none⟩ = false := hk.free 8
  have hcl : W.cell? ⟨g, 8, none⟩ = some (.string (bts c.uid)) := hk.cell 8
  clear hk hX
  go_enter Tryz.func105, Tryz.ntmps105
  go_wp2_with fail
  go_region_with ((go_at_call 76; refine (HC.out _).mono ?_; rintro e w1 ⟨rfl, rfl⟩))
  all_goals
    go_wp2_with fail
    go_ret
    have k9 := HK.out.put 8 (.string X)
    rw [HS.out] at k9
    exact ⟨rfl, k9, grown_setD _ 8 _ g⟩
theorem putText_any {i : Nat} (hi : i < 9) (ht : isT i = true) (b : Nat) (g : Nat) (c : Con) (gv o : Value) (ta : Addr) (cap : Nat) (x : List UInt8) (W : World) (hk : Bk W g 25 (conCells c gv o)) (hb : Bk W b 103 #[.func (.func (fieldF i)) #[] #[]]) (hx : W.cell? ta = some (.string (bts x))) :
    Calls Tryz.prog 105 #[.pointer (some ⟨g, 0, none⟩), .slice (some ta) 1 cap, .pointer (some ⟨b, 0, none⟩)] W (PutV g (setC (kname i) x c) gv o W) := by
  rcases kcases hi with rfl | rfl | rfl | rfl | rfl | rfl | rfl | rfl | rfl
  · exact putText0 b g c gv o ta cap x W hk hb hx
  · cases ht
  · exact putText2 b g c gv o ta cap x W hk hb hx
  · cases ht
  · exact putText4 b g c gv o ta cap x W hk hb hx
  · exact putText5 b g c gv o ta cap x W hk hb hx
  · cases ht
  · exact putText7 b g c gv o ta cap x W hk hb hx
  · exact putText8 b g c gv o ta cap x W hk hb hx
end Go.Proofs.YtfbdnaclkfmiaaaGreatDoor
end
