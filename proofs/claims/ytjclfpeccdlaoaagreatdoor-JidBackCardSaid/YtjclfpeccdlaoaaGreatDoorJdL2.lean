/-
  JidBack.
-/
import Derived.Test.YtjclfpeccdlaoaaGreatDoorJdW
namespace Go.Proofs.YtjclfpeccdlaoaaGreatDoor
open Go.RowKit Rg Tx

set_option maxHeartbeats 16000000 in
theorem jidBack_any (s : ByteArray) (w : World) (hO : Okw w) (hs : s.size ≤ maxLen) :
    Calls Tryz.prog 4 #[.string s] w (Holds w) := by
  unfold maxLen at hs
  have HA := Lib.hid (fun W (h : Below w.heap.size w W) => awake_any W (hO.below h))
  by_cases hlen : s.size ≤ 500
  · have HP := Lib.hid (parse_any s w hO (by omega))
    have HB := Lib.hid (fun W (h : Below w.heap.size w W) => bare_any s W (hO.below h) (by omega))
    obtain ⟨p, hp⟩ : ∃ p, Jd.parseL s.data.toList = p := ⟨_, rfl⟩
    rw [hp, jidnV_of] at HP
    by_cases h0 : p.2 = 0
    · have e0 : Jd.parseL s.data.toList = (p.1, 0) := by rw [hp, ← h0]
      obtain ⟨z1, z2, z3⟩ := Jd.parse_len e0
      have hback := Jd.parse_back e0
      have hbo := Jd.bare_ok e0
      have hbr := Jd.bare_res e0
      have hbb := Jd.bare_back e0
      have htl := Jd.text_len p.1
      obtain ⟨l, hl⟩ : ∃ l, bts p.1.1 = l := ⟨_, rfl⟩
      obtain ⟨d, hd⟩ : ∃ d, bts p.1.2.1 = d := ⟨_, rfl⟩
      obtain ⟨r, hr⟩ : ∃ r, bts p.1.2.2 = r := ⟨_, rfl⟩
      obtain ⟨x, hx⟩ : ∃ x, bts (Jd.textL p.1) = x := ⟨_, rfl⟩
      have dl : l.data.toList = p.1.1 := by rw [← hl]
      have dd : d.data.toList = p.1.2.1 := by rw [← hd]
      have dr : r.data.toList = p.1.2.2 := by rw [← hr]
      have dx : x.data.toList = Jd.textL p.1 := by rw [← hx]
      have hxs : x.size ≤ 300 := by rw [Lib.size_eq, dx]; omega
      have HT := Lib.hid (fun W => text_any l d r W (by rw [Lib.size_eq, dl]; omega) (by rw [Lib.size_eq, dd]; omega) (by rw [Lib.size_eq, dr]; omega))
      rw [show (l.data.toList, d.data.toList, r.data.toList) = p.1 from by rw [dl, dd, dr], hx] at HT
      have HP2 := Lib.hid (fun W (h : Below w.heap.size w W) => parse_any x W (hO.below h) (by omega))
      rw [dx, hback, jidnV_of] at HP2
      simp only at HP2
      rw [hl, hd, hr] at HP HP2
      rw [h0] at HP
      have s1 := same_self l
      have s2 := same_self d
      have s3 := same_self r
      have s4 := same_self x
      by_cases h1 : p.1.2.2 = []
      · have HB1 := Lib.hid (fun W (h : Below w.heap.size w W) => bare_any x W (hO.below h) (by omega))
        rw [dx, hbb h1, show twoV (Jd.textL p.1, 0) = .tuple #[.string x, .int .i64 0] from by rw [← hx]; rfl] at HB1
        rw [hbo h1, show twoV (Jd.textL p.1, 0) = .tuple #[.string x, .int .i64 0] from by rw [← hx]; rfl] at HB
        have hre : r = ⟨#[]⟩ := empty_true (by rw [dr]; exact h1)
        subst hre
        clear hp e0 z1 z2 z3 hback hbo hbr hbb htl hl hd hr hx dl dd dr dx h0 h1 hO
        go_enter Tryz.func4, Tryz.ntmps4
        go_wp2_with fail
        refine HP.out.mono ?_
        rintro e w1 ⟨rfl, b1⟩
        go_wp2_with fail
        obtain ⟨w2, hw2⟩ : ∃ w2, w1.alloc (.cells #[.string l, .string d, .string ⟨#[]⟩] 23) = w2 := ⟨_, rfl⟩
        have K2 : Hid (Bk w2 w1.heap.size 23 #[.string l, .string d, .string ⟨#[]⟩]) := by unfold Hid; rw [← hw2]; exact Bk.new w1 _ _
        have B2 : Hid (Below w.heap.size w w2) := by unfold Hid; rw [← hw2]; exact b1.alloc b1.size _
        clear b1
        rw [hw2]
        refine (HT.out w2).mono ?_
        rintro e w3 ⟨rfl, b3⟩
        have B3 := Lib.hid (B2.out.trans (b3.mono B2.out.size))
        have K3 := Lib.hid (K2.out.below b3 K2.out.lt)
        clear b3 hw2
        go_wp2_with fail
        refine (HP2.out w3 B3.out).mono ?_
        rintro e w4 ⟨rfl, b4⟩
        have B4 := Lib.hid (B3.out.trans (b4.mono B3.out.size))
        have K4 := Lib.hid (K3.out.below b4 K3.out.lt)
        clear b4
        go_wp2_with fail
        obtain ⟨w5, hw5⟩ : ∃ w5, w4.alloc (.cells #[.string l, .string d, .string ⟨#[]⟩] 23) = w5 := ⟨_, rfl⟩
        have K5 : Hid (Bk w5 w1.heap.size 23 #[.string l, .string d, .string ⟨#[]⟩]) := by unfold Hid; rw [← hw5]; exact K4.out.alloc _
        have M5 : Hid (Bk w5 w4.heap.size 23 #[.string l, .string d, .string ⟨#[]⟩]) := by unfold Hid; rw [← hw5]; exact Bk.new w4 _ _
        have B5 : Hid (Below w.heap.size w w5) := by unfold Hid; rw [← hw5]; exact B4.out.alloc B4.out.size _
        rw [hw5]
        refine (HB.out w5 B5.out).mono ?_
        rintro e w6 ⟨rfl, b6⟩
        have B6 := Lib.hid (B5.out.trans (b6.mono B5.out.size))
        have K6 := Lib.hid (K5.out.below b6 K5.out.lt)
        have M6 := Lib.hid (M5.out.below b6 M5.out.lt)
        clear b6 hw5
        go_wp2_with fail
        refine (HB1.out w6 B6.out).mono ?_
        rintro e w7 ⟨rfl, b7⟩
        have B7 := Lib.hid (B6.out.trans (b7.mono B6.out.size))
        have K7 := Lib.hid (K6.out.below b7 K6.out.lt)
        have M7 := Lib.hid (M6.out.below b7 M6.out.lt)
        clear b7
        go_wp2_with fail
        refine (HA.out w7 B7.out).mono ?_
        rintro e w8 ⟨rfl, b8⟩
        have B8 := Lib.hid (B7.out.trans (b8.mono B7.out.size))
        have K8 := Lib.hid (K7.out.below b8 K7.out.lt)
        have M8 := Lib.hid (M7.out.below b8 M7.out.lt)
        have c0 : w8.cell? ⟨w1.heap.size, 0, none⟩ = some (.string l) := K8.out.cell 0
        have c1 : w8.cell? ⟨w1.heap.size, 1, none⟩ = some (.string d) := K8.out.cell 1
        have c2 : w8.cell? ⟨w1.heap.size, 2, none⟩ = some (.string ⟨#[]⟩) := K8.out.cell 2
        have d0 : w8.cell? ⟨w4.heap.size, 0, none⟩ = some (.string l) := M8.out.cell 0
        have d1 : w8.cell? ⟨w4.heap.size, 1, none⟩ = some (.string d) := M8.out.cell 1
        have d2 : w8.cell? ⟨w4.heap.size, 2, none⟩ = some (.string ⟨#[]⟩) := M8.out.cell 2
        clear b8
        go_wp2_with fail
        refine (HT.out w8).mono ?_
        rintro e w9 ⟨rfl, b9⟩
        have B9 := Lib.hid (B8.out.trans (b9.mono B8.out.size))
        clear b9
        go_wp2_with fail
        go_ret
        exact ⟨rfl, B9.out⟩
      · obtain ⟨v, hv⟩ : ∃ v, Jd.bareL [] = v := ⟨_, rfl⟩
        have HB1 := Lib.hid (fun W (h : Below w.heap.size w W) => bare_any ⟨#[]⟩ W (hO.below h) (by decide))
        rw [show (⟨#[]⟩ : ByteArray).data.toList = [] from rfl, hv, show twoV v = .tuple #[.string (bts v.1), .int .i64 (v.2 : Nat)] from rfl] at HB1
        obtain ⟨va, hva⟩ : ∃ a, bts v.1 = a := ⟨_, rfl⟩
        obtain ⟨vn, hvn⟩ : ∃ n : Int, ((v.2 : Nat) : Int) = n := ⟨_, rfl⟩
        rw [hva, hvn] at HB1
        rw [hbr h1, show twoV ([], 14) = .tuple #[.string ⟨#[]⟩, .int .i64 14] from rfl] at HB
        have hne := empty_false (a := r) (by rw [dr]; exact h1)
        clear hp e0 z1 z2 z3 hback hbo hbr hbb htl hl hd hr hx dl dd dr dx h0 h1 hO hv hva hvn
        go_enter Tryz.func4, Tryz.ntmps4
        go_wp2_with fail
        refine HP.out.mono ?_
        rintro e w1 ⟨rfl, b1⟩
        go_wp2_with fail
        obtain ⟨w2, hw2⟩ : ∃ w2, w1.alloc (.cells #[.string l, .string d, .string r] 23) = w2 := ⟨_, rfl⟩
        have K2 : Hid (Bk w2 w1.heap.size 23 #[.string l, .string d, .string r]) := by unfold Hid; rw [← hw2]; exact Bk.new w1 _ _
        have B2 : Hid (Below w.heap.size w w2) := by unfold Hid; rw [← hw2]; exact b1.alloc b1.size _
        clear b1
        rw [hw2]
        refine (HT.out w2).mono ?_
        rintro e w3 ⟨rfl, b3⟩
        have B3 := Lib.hid (B2.out.trans (b3.mono B2.out.size))
        have K3 := Lib.hid (K2.out.below b3 K2.out.lt)
        clear b3 hw2
        go_wp2_with fail
        refine (HP2.out w3 B3.out).mono ?_
        rintro e w4 ⟨rfl, b4⟩
        have B4 := Lib.hid (B3.out.trans (b4.mono B3.out.size))
        have K4 := Lib.hid (K3.out.below b4 K3.out.lt)
        clear b4
        go_wp2_with fail
        obtain ⟨w5, hw5⟩ : ∃ w5, w4.alloc (.cells #[.string l, .string d, .string r] 23) = w5 := ⟨_, rfl⟩
        have K5 : Hid (Bk w5 w1.heap.size 23 #[.string l, .string d, .string r]) := by unfold Hid; rw [← hw5]; exact K4.out.alloc _
        have M5 : Hid (Bk w5 w4.heap.size 23 #[.string l, .string d, .string r]) := by unfold Hid; rw [← hw5]; exact Bk.new w4 _ _
        have B5 : Hid (Below w.heap.size w w5) := by unfold Hid; rw [← hw5]; exact B4.out.alloc B4.out.size _
        rw [hw5]
        refine (HB.out w5 B5.out).mono ?_
        rintro e w6 ⟨rfl, b6⟩
        have B6 := Lib.hid (B5.out.trans (b6.mono B5.out.size))
        have K6 := Lib.hid (K5.out.below b6 K5.out.lt)
        have M6 := Lib.hid (M5.out.below b6 M5.out.lt)
        clear b6 hw5
        go_wp2_with fail
        refine (HB1.out w6 B6.out).mono ?_
        rintro e w7 ⟨rfl, b7⟩
        have B7 := Lib.hid (B6.out.trans (b7.mono B6.out.size))
        have K7 := Lib.hid (K6.out.below b7 K6.out.lt)
        have M7 := Lib.hid (M6.out.below b7 M6.out.lt)
        clear b7
        go_wp2_with fail
        refine (HA.out w7 B7.out).mono ?_
        rintro e w8 ⟨rfl, b8⟩
        have B8 := Lib.hid (B7.out.trans (b8.mono B7.out.size))
        have K8 := Lib.hid (K7.out.below b8 K7.out.lt)
        have M8 := Lib.hid (M7.out.below b8 M7.out.lt)
        have c0 : w8.cell? ⟨w1.heap.size, 0, none⟩ = some (.string l) := K8.out.cell 0
        have c1 : w8.cell? ⟨w1.heap.size, 1, none⟩ = some (.string d) := K8.out.cell 1
        have c2 : w8.cell? ⟨w1.heap.size, 2, none⟩ = some (.string r) := K8.out.cell 2
        have d0 : w8.cell? ⟨w4.heap.size, 0, none⟩ = some (.string l) := M8.out.cell 0
        have d1 : w8.cell? ⟨w4.heap.size, 1, none⟩ = some (.string d) := M8.out.cell 1
        have d2 : w8.cell? ⟨w4.heap.size, 2, none⟩ = some (.string r) := M8.out.cell 2
        clear b8
        go_wp2_with fail
        go_ret
        exact ⟨rfl, B8.out⟩
    · have hbad := Jd.bare_bad (s := s.data.toList) (by rw [hp]; exact h0)
      have hno := Jd.parse_err (s := s.data.toList) (by rw [hp]; exact h0)
      rw [hp] at hbad hno
      rw [hno] at HP
      rw [hbad, show twoV ([], p.2) = .tuple #[.string ⟨#[]⟩, .int .i64 (p.2 : Nat)] from rfl] at HB
      simp only [Jd.none_] at HP
      obtain ⟨n, hn⟩ : ∃ n : Int, ((p.2 : Nat) : Int) = n := ⟨_, rfl⟩
      rw [hn] at HP HB
      have hn0 : n ≠ 0 := by omega
      have hnB : (n != 0) = true := by simpa using hn0
      clear hbad hno hp h0 hn hO
      go_enter Tryz.func4, Tryz.ntmps4
      go_wp2_with fail
      refine HP.out.mono ?_
      rintro e w1 ⟨rfl, b1⟩
      go_wp2_with fail
      obtain ⟨w2, hw2⟩ : ∃ w2, w1.alloc (.cells #[.string ⟨#[]⟩, .string ⟨#[]⟩, .string ⟨#[]⟩] 23) = w2 := ⟨_, rfl⟩
      have K2 : Hid (Bk w2 w1.heap.size 23 #[.string ⟨#[]⟩, .string ⟨#[]⟩, .string ⟨#[]⟩]) := by unfold Hid; rw [← hw2]; exact Bk.new w1 _ _
      have B2 : Hid (Below w.heap.size w w2) := by unfold Hid; rw [← hw2]; exact b1.alloc b1.size _
      clear b1
      rw [hw2]
      refine (HB.out w2 B2.out).mono ?_
      rintro e w3 ⟨rfl, b3⟩
      have B3 := Lib.hid (B2.out.trans (b3.mono B2.out.size))
      have K3 := Lib.hid (K2.out.below b3 K2.out.lt)
      clear b3 hw2
      go_wp2_with fail
      refine (HA.out w3 B3.out).mono ?_
      rintro e w4 ⟨rfl, b4⟩
      have B4 := Lib.hid (B3.out.trans (b4.mono B3.out.size))
      have K4 := Lib.hid (K3.out.below b4 K3.out.lt)
      have c0 : w4.cell? ⟨w1.heap.size, 0, none⟩ = some (.string ⟨#[]⟩) := K4.out.cell 0
      have c1 : w4.cell? ⟨w1.heap.size, 1, none⟩ = some (.string ⟨#[]⟩) := K4.out.cell 1
      have c2 : w4.cell? ⟨w1.heap.size, 2, none⟩ = some (.string ⟨#[]⟩) := K4.out.cell 2
      clear b4
      go_wp2_with fail
      go_ret
      exact ⟨rfl, B4.out⟩
  · clear hO
    go_enter Tryz.func4, Tryz.ntmps4
    go_wp2_with fail
    refine (HA.out w (Below.refl _ _)).mono ?_
    rintro e w1 ⟨rfl, b1⟩
    go_wp2_with fail
    go_ret
    exact ⟨rfl, b1⟩
end Go.Proofs.YtjclfpeccdlaoaaGreatDoor
