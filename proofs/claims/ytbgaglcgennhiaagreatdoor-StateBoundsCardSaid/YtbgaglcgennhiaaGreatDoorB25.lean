import Derived.Test.YtbgaglcgennhiaaGreatDoorB22
import Derived.Test.YtbgaglcgennhiaaGreatDoorB05
import Derived.Test.YtbgaglcgennhiaaGreatDoorB23
import Derived.Test.YtbgaglcgennhiaaGreatDoorB24
/- what is reached of it -/
namespace Go.Proofs.YtbgaglcgennhiaaGreatDoor
open Go.RowKit Rg Tx
/-- What the walks lean on: utf8's two tables, and Go's own bound on a search. -/
structure Okw (w : World) : Prop where
  tabs : Tabs w
  maxl : MaxL w
theorem Okw.below {w w' : World} (h : Okw w) (hb : Below w.heap.size w w') : Okw w' := ⟨h.tabs.below hb, h.maxl.below hb⟩

/-- a text and a number -/
def twoV (r : List UInt8 × Nat) : Value := .tuple #[.string ⟨r.1.toArray⟩, .int .i64 (r.2 : Nat)]
theorem twoV_prep (k : Nat) (l : List UInt8) : prepV k l = twoV (Pr.prepL k l) := rfl
theorem twoV_of {r : List UInt8 × Nat} {a : List UInt8} {n : Nat} (h : r = (a, n)) : twoV r = .tuple #[.string ⟨a.toArray⟩, .int .i64 (n : Nat)] := by rw [h]; rfl

theorem cut_lib (c : UInt8) (l : List UInt8) : Lib.cut l [c] = Jd.cutB c l := by
  rcases cut_one c l with ⟨h1, h2⟩ | ⟨p, r, h1, h2, h3⟩
  · rw [h1, Jd.cutB_none (fun e => h2 c e rfl)]
  · rw [h3, h1, Jd.cutB_some (fun e => h2 c e rfl)]
/-- a text's front, its rest, and whether the sign is there -/
def cutV (c : List UInt8 × List UInt8 × Bool) : Value := .tuple #[.string ⟨c.1.toArray⟩, .string ⟨c.2.1.toArray⟩, .bool c.2.2]
theorem cutc_any (c : UInt8) (s : ByteArray) (w : World) (hM : MaxL w) (hs : s.size ≤ 1000000000) :
    Calls Tryz.prog 152 #[.string s, .string ⟨#[c]⟩] w fun e w' => e = .returned (cutV (Jd.cutB c s.data.toList)) ∧ Below w.heap.size w w' := by
  obtain ⟨m, hm⟩ := hM
  refine (Tryz.strings_Cut s ⟨#[c]⟩ m w (by omega) hm).mono ?_
  rintro e w' ⟨rfl, n, rfl⟩
  refine ⟨?_, below_drewNP w n⟩
  rw [show (⟨#[c]⟩ : ByteArray).data.toList = [c] from rfl, cut_lib]
  rfl
set_option maxHeartbeats 1000000 in
theorem halves_any (s : ByteArray) (w : World) (hM : MaxL w) (hs : s.size ≤ 1000000000) :
    Calls Tryz.prog 109 #[.string s] w fun e w' => e = .returned (cutV (Jd.halfL s.data.toList)) ∧ Below w.heap.size w w' := by
  have HC := Lib.hid (cutc_any 64 s w hM hs)
  rcases Jd.cutB_cases 64 s.data.toList with ⟨h1, h2⟩ | ⟨p, r, h1, h2, h3⟩
  · rw [Jd.half_none h2]
    rw [h1] at HC
    unfold cutV at HC ⊢
    simp only at HC ⊢
    have et : (⟨s.data.toList.toArray⟩ : ByteArray) = s := rfl
    rw [et] at HC ⊢
    clear h1 h2 et hM
    go_enter Tryz.func109, Tryz.ntmps109
    go_wp2_with fail
    refine HC.out.mono ?_
    rintro e w1 ⟨rfl, b1⟩
    go_wp2_with fail
    go_ret3
    exact ⟨rfl, b1⟩
  · rw [h1, Jd.half_some h2]
    rw [h3] at HC
    unfold cutV at HC ⊢
    simp only at HC ⊢
    obtain ⟨P, hP⟩ : ∃ P : ByteArray, ⟨p.toArray⟩ = P := ⟨_, rfl⟩
    obtain ⟨R, hR⟩ : ∃ R : ByteArray, ⟨r.toArray⟩ = R := ⟨_, rfl⟩
    rw [hP, hR] at HC ⊢
    clear h1 h2 h3 hP hR hM
    go_enter Tryz.func109, Tryz.ntmps109
    go_wp2_with fail
    refine HC.out.mono ?_
    rintro e w1 ⟨rfl, b1⟩
    go_wp2_with fail
    go_ret3
    exact ⟨rfl, b1⟩

theorem prefix_one (c : UInt8) (l : List UInt8) : Lib.hasPrefix l [c] = (l.head? == some c) := by
  cases l with
  | nil => rfl
  | cons a t =>
    unfold Lib.hasPrefix
    show (c == a && true) = (some a == some c)
    by_cases h : c = a
    · subst h; simp
    · have h2 : ¬ a = c := fun e => h e.symm
      have h3 : (c == a) = false := by simpa using h
      rw [h3]
      simp [h2]
theorem suffix_one (c : UInt8) (l : List UInt8) : Lib.hasSuffix l [c] = (l.getLast? == some c) := by
  unfold Lib.hasSuffix
  rw [Bool.eq_iff_iff, List.isSuffixOf_iff_suffix]
  constructor
  · rintro ⟨t, rfl⟩
    simp
  · intro h
    have h2 : l.getLast? = some c := by simpa using h
    rcases List.eq_nil_or_concat l with rfl | ⟨t, x, rfl⟩
    · simp at h2
    · simp at h2
      subst h2
      exact ⟨t, by simp⟩
theorem trim_lib (l : List UInt8) : Lib.trimSuffix l [46] = Jd.trimD l := by
  unfold Lib.trimSuffix Jd.trimD
  rw [suffix_one]
  by_cases h : l.getLast? = some 46
  · rw [if_pos h, if_pos (by rw [h]; rfl), List.dropLast_eq_take]
    rfl
  · rw [if_neg h, if_neg (by simpa using h)]
theorem bad_of (l : List UInt8) : Jd.badB l = (l.isEmpty || Lib.hasPrefix l [45] || Lib.hasSuffix l [45]) := by
  unfold Jd.badB
  rw [prefix_one, suffix_one]
  cases l with
  | nil => rfl
  | cons a t => simp [List.getLast?_cons]
theorem isEmpty_size (s : ByteArray) : s.toList.isEmpty = s.data.toList.isEmpty := by
  have e : (⟨s.data⟩ : ByteArray).toList = s.data.toList := ByteArray.toList_mk _
  rw [← e]
set_option maxHeartbeats 1000000 in
theorem wrong_any (s : ByteArray) (w : World) (hs : s.size ≤ 1000000000) :
    Calls Tryz.prog 121 #[.string s] w fun e w' => e = .returned (.bool (Jd.badB s.data.toList)) ∧ w' = w := by
  have H1 := fun (W : World) => Tryz.strings_HasPrefix s ⟨#[45]⟩ W
  have H2 := fun (W : World) => Tryz.strings_HasSuffix s ⟨#[45]⟩ W (by omega)
  rw [show (⟨#[45]⟩ : ByteArray).data.toList = [45] from rfl] at H1 H2
  rw [bad_of, ← isEmpty_size]
  obtain ⟨p, hp⟩ : ∃ p, Lib.hasPrefix s.data.toList [45] = p := ⟨_, rfl⟩
  obtain ⟨q, hq⟩ : ∃ q, Lib.hasSuffix s.data.toList [45] = q := ⟨_, rfl⟩
  rw [hp] at H1 ⊢
  rw [hq] at H2 ⊢
  have HO1 := Lib.hid H1
  have HO2 := Lib.hid H2
  clear H1 H2 hp hq
  cases he : s.toList.isEmpty with
  | true =>
    go_enter Tryz.func121, Tryz.ntmps121
    go_wp2_with fail
    go_ret
    exact ⟨rfl, rfl⟩
  | false =>
    cases p with
    | true =>
      go_enter Tryz.func121, Tryz.ntmps121
      go_wp2_with fail
      refine (HO1.out _).mono ?_
      rintro e w1 ⟨rfl, rfl⟩
      go_wp2_with fail
      go_ret
      exact ⟨rfl, rfl⟩
    | false =>
      go_enter Tryz.func121, Tryz.ntmps121
      go_wp2_with fail
      refine (HO1.out _).mono ?_
      rintro e w1 ⟨rfl, rfl⟩
      go_wp2_with fail
      refine (HO2.out _).mono ?_
      rintro e w2 ⟨rfl, rfl⟩
      go_wp2_with fail
      go_ret
      exact ⟨rfl, rfl⟩

def Keeps (w : World) (v : Value) (f : List UInt8 → List UInt8 × Nat) : Prop := ∃ (F : FuncId) (cb : Array Value), v = .func (.func F) #[] cb ∧ (∀ args W, (callFunc F args).run Tryz.prog W = .ok (.enter F args) W) ∧
  ∀ (s : ByteArray) W, Below w.heap.size w W → s.size ≤ 100000000 → Calls Tryz.prog F (#[.string s] ++ cb) W fun e w' => e = .returned (twoV (f s.data.toList)) ∧ Below W.heap.size W w'
theorem Keeps.below {w w' : World} {v : Value} {f : List UInt8 → List UInt8 × Nat} (h : Keeps w v f) (hb : Below w.heap.size w w') : Keeps w' v f := by
  obtain ⟨F, cb, rfl, eg, hp⟩ := h
  exact ⟨F, cb, rfl, eg, fun s W hW => hp s W (hb.trans (hW.mono hb.size))⟩
theorem keeps_of {w : World} (F : FuncId) (f : List UInt8 → List UInt8 × Nat) (hO : Okw w) (eg : ∀ args W, (callFunc F args).run Tryz.prog W = .ok (.enter F args) W)
    (h : ∀ (s : ByteArray) W, Okw W → s.size ≤ 100000000 → Calls Tryz.prog F #[.string s] W fun e w' => e = .returned (twoV (f s.data.toList)) ∧ Below W.heap.size W w') : Keeps w (.func (.func F) #[] #[]) f :=
  ⟨F, #[], rfl, eg, fun s W hW hs => h s W (hO.below hW) hs⟩
theorem node_keeps {w : World} (hO : Okw w) : Keeps w (.func (.func 164) #[] #[]) (Pr.prepL 1) :=
  keeps_of _ _ hO (Go.Proofs.enters_of Tryz.func164 (by kernel_rfl) rfl) fun s W hW hs => node_any s W hW.tabs (by omega)
theorem resource_keeps {w : World} (hO : Okw w) : Keeps w (.func (.func 186) #[] #[]) (Pr.prepL 3) :=
  keeps_of _ _ hO (Go.Proofs.enters_of Tryz.func186 (by kernel_rfl) rfl) fun s W hW hs => resource_any s W hW.tabs (by omega)
set_option maxHeartbeats 1000000 in
theorem jhost_any (s : ByteArray) (w : World) (hO : Okw w) (hs : s.size ≤ 100000000) :
    Calls Tryz.prog 118 #[.string s] w fun e w' => e = .returned (twoV (Jd.hostL s.data.toList)) ∧ Below w.heap.size w w' := by
  have HH := Lib.hid (host_any s w hO.tabs (by omega))
  have hl := Pr.prepL_len 2 s.data.toList
  have hsz := Lib.size_eq s
  obtain ⟨r, hr⟩ : ∃ r, Pr.prepL 2 s.data.toList = r := ⟨_, rfl⟩
  have hV : Jd.hostL s.data.toList = (Jd.trimD r.1, r.2) := by unfold Jd.hostL; rw [hr]
  rw [twoV_prep, hr] at HH
  rw [hr] at hl
  rw [hV]
  obtain ⟨a, ha⟩ : ∃ a : ByteArray, ⟨r.1.toArray⟩ = a := ⟨_, rfl⟩
  have hd : a.data.toList = r.1 := by rw [← ha]
  have hasz : a.size = r.1.length := by rw [Lib.size_eq, hd]
  have HT := fun (W : World) => Tryz.strings_TrimSuffix a ⟨#[46]⟩ W (by omega)
  rw [show (⟨#[46]⟩ : ByteArray).data.toList = [46] from rfl, hd, trim_lib] at HT
  obtain ⟨b, hb⟩ : ∃ b : ByteArray, ⟨(Jd.trimD r.1).toArray⟩ = b := ⟨_, rfl⟩
  unfold twoV at HH ⊢
  simp only at HH ⊢
  rw [ha] at HH
  rw [hb] at HT ⊢
  obtain ⟨n, hn⟩ : ∃ n : Int, ((r.2 : Nat) : Int) = n := ⟨_, rfl⟩
  rw [hn] at HH ⊢
  have HO1 := Lib.hid HT
  clear HT hV hl hsz hr ha hd hasz hb hn hO
  go_enter Tryz.func118, Tryz.ntmps118
  go_wp2_with fail
  refine HH.out.mono ?_
  rintro e w1 ⟨rfl, b1⟩
  go_wp2_with fail
  refine (HO1.out _).mono ?_
  rintro e w2 ⟨rfl, rfl⟩
  go_wp2_with fail
  go_ret2
  exact ⟨rfl, b1⟩
theorem host_keeps {w : World} (hO : Okw w) : Keeps w (.func (.func 118) #[] #[]) Jd.hostL :=
  keeps_of _ _ hO (Go.Proofs.enters_of Tryz.func118 (by kernel_rfl) rfl) fun s W hW hs => jhost_any s W hW hs
theorem empty_false {a : ByteArray} (h : a.data.toList ≠ []) : a.toList.isEmpty = false := by
  rw [isEmpty_size]
  cases e : a.data.toList with
  | nil => exact absurd e h
  | cons x t => rfl
set_option maxHeartbeats 1000000 in
theorem sized1_any (b1 b2 : Nat) (v : Value) (most : Nat) (M : Int) (hM : M = (most : Int)) (f : List UInt8 → List UInt8 × Nat) (w0 : World) (hq : Keeps w0 v f) (s : ByteArray) (W : World) (hW : Below w0.heap.size w0 W) (h1 : W.cell? ⟨b1, 0, none⟩ = some v)
    (h2 : ∀ w', Below W.heap.size W w' → w'.cell? ⟨b2, 0, none⟩ = some (.int .i64 M)) (hs : s.size ≤ 100000000) :
    Calls Tryz.prog 157 (#[.string s] ++ #[.pointer (some ⟨b1, 0, none⟩), .pointer (some ⟨b2, 0, none⟩)]) W fun e w' => e = .returned (twoV (Jd.sizedL most (f s.data.toList))) ∧ Below W.heap.size W w' := by
  obtain ⟨F, cb, rfl, eg, hq⟩ := hq
  have HQ := Lib.hid (hq s W hW hs)
  clear hq
  obtain ⟨r, hr⟩ : ∃ r, f s.data.toList = r := ⟨_, rfl⟩
  rw [hr] at HQ ⊢
  have H2 := Lib.hid h2
  clear hr h2
  by_cases h0 : r.2 = 0
  · by_cases hc : r.1 = []
    · have e1 : r = ([], 0) := Prod.ext hc h0
      have e2 : Jd.sizedL most r = ([], 14) := by unfold Jd.sizedL; rw [if_pos h0, if_pos (.inl hc)]
      rw [twoV_of e1] at HQ
      rw [twoV_of e2]
      clear e1 e2 hc h0
      go_enter Tryz.func157, Tryz.ntmps157
      go_wp2_with fail
      refine HQ.out.mono ?_
      rintro e w1 ⟨rfl, bb⟩
      go_wp2_with fail
      go_ret2
      exact ⟨rfl, bb⟩
    · have e1 : r = (r.1, 0) := Prod.ext rfl h0
      obtain ⟨a, ha⟩ : ∃ a : ByteArray, ⟨r.1.toArray⟩ = a := ⟨_, rfl⟩
      have hd : a.data.toList = r.1 := by rw [← ha]
      have hasz : a.size = r.1.length := by rw [Lib.size_eq, hd]
      have hne : a.toList.isEmpty = false := empty_false (by rw [hd]; exact hc)
      rw [twoV_of e1, ha] at HQ
      by_cases hm : most < r.1.length
      · have e2 : Jd.sizedL most r = ([], 14) := by unfold Jd.sizedL; rw [if_pos h0, if_pos (.inr hm)]
        rw [twoV_of e2]
        have hlt : M < (a.size : Int) := by rw [hasz, hM]; omega
        have hltB : decide (M < (a.size : Int)) = true := decide_eq_true hlt
        have hltG : decide ((a.size : Int) > M) = true := decide_eq_true hlt
        clear e1 e2 hc h0 hm hd hasz ha hM
        go_enter Tryz.func157, Tryz.ntmps157
        go_wp2_with fail
        refine HQ.out.mono ?_
        rintro e w1 ⟨rfl, bb⟩
        have c2 := H2.out w1 bb
        go_wp2_with fail
        go_ret2
        exact ⟨rfl, bb⟩
      · have e2 : Jd.sizedL most r = (r.1, 0) := by rw [Jd.sizedL, if_pos h0, if_neg (by rintro (h | h); exact hc h; exact hm h)]; exact e1
        rw [twoV_of e2, ha]
        have hlt : ¬ M < (a.size : Int) := by rw [hasz, hM]; omega
        have hltB : decide (M < (a.size : Int)) = false := decide_eq_false hlt
        have hltG : decide ((a.size : Int) > M) = false := decide_eq_false hlt
        clear e1 e2 hc h0 hm hd hasz ha hM
        go_enter Tryz.func157, Tryz.ntmps157
        go_wp2_with fail
        refine HQ.out.mono ?_
        rintro e w1 ⟨rfl, bb⟩
        have c2 := H2.out w1 bb
        go_wp2_with fail
        go_ret2
        exact ⟨rfl, bb⟩
  · have e2 : Jd.sizedL most r = ([], r.2) := by unfold Jd.sizedL; rw [if_neg h0]
    rw [twoV_of e2]
    unfold twoV at HQ
    obtain ⟨a, ha⟩ : ∃ a : ByteArray, ⟨r.1.toArray⟩ = a := ⟨_, rfl⟩
    obtain ⟨n, hn⟩ : ∃ n : Int, ((r.2 : Nat) : Int) = n := ⟨_, rfl⟩
    rw [ha, hn] at HQ
    rw [hn]
    have hn0 : n ≠ 0 := by omega
    have hnB : (n != 0) = true := by simpa using hn0
    clear e2 h0 ha hn
    go_enter Tryz.func157, Tryz.ntmps157
    go_wp2_with fail
    refine HQ.out.mono ?_
    rintro e w1 ⟨rfl, bb⟩
    go_wp2_with fail
    go_ret2
    exact ⟨rfl, bb⟩
set_option maxHeartbeats 1000000 in
theorem sized_any (v : Value) (most : Nat) (M : Int) (hM : M = (most : Int)) (f : List UInt8 → List UInt8 × Nat) (w : World) (hq : Keeps w v f) :
    Calls Tryz.prog 117 #[v, .int .i64 M] w fun e w' => ∃ u, e = .returned u ∧ Keeps w' u (fun s => Jd.sizedL most (f s)) ∧ Below w.heap.size w w' := by
  have eg : ∀ args w, (callFunc 157 args).run Tryz.prog w = .ok (.enter 157 args) w := Go.Proofs.enters_of Tryz.func157 (by kernel_rfl) rfl
  obtain ⟨w2, hw2⟩ : ∃ w2, (w.alloc (.cells #[v] 73)).alloc (.cells #[.int .i64 M] 3) = w2 := ⟨_, rfl⟩
  have hb : Below w.heap.size w w2 := by rw [← hw2]; exact ((Below.refl _ w).alloc (Nat.le_refl _) _).alloc (by simp) _
  have hs2 : w2.heap.size = w.heap.size + 1 + 1 := by rw [← hw2]; simp
  have k1 : Bk w2 w.heap.size 73 #[v] := by rw [← hw2]; exact (Bk.new w _ _).alloc _
  have k2 : Bk w2 (w.heap.size + 1) 3 #[.int .i64 M] := by rw [← hw2]; exact Bk.new1 w _ _ _
  have HK : Hid (Keeps w2 (.func (.func 157) #[] #[.pointer (some ⟨w.heap.size, 0, none⟩), .pointer (some ⟨w.heap.size + 1, 0, none⟩)]) (fun s => Jd.sizedL most (f s))) := by
    refine ⟨_, _, rfl, eg, fun s W hW hs => ?_⟩
    have hsW := hW.size
    refine sized1_any w.heap.size (w.heap.size + 1) v most M hM f w hq s W (hb.trans (hW.mono (by omega))) ((k1.below hW (by omega)).cell 0) ?_ hs
    intro w' hb'
    exact ((k2.below hW (by omega)).below hb' (by omega)).cell 0
  have hB := Lib.hid hb
  obtain ⟨F, cb, rfl, -, -⟩ := hq
  rw [← hw2] at HK hB
  clear k1 k2 hs2 hb hw2 eg hM
  go_enter Tryz.func117, Tryz.ntmps117
  go_wp2_with fail
  go_ret
  exact ⟨_, rfl, HK.out, hB.out⟩
end Go.Proofs.YtbgaglcgennhiaaGreatDoor
