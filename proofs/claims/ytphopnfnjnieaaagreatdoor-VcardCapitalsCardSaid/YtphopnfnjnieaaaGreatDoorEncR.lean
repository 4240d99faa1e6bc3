/-
  A CHARACTER's BYTES AND THE LIBRARY's OWN WORDS FOR THEM; a text is its characters, written. Nothing of any program.
-/
import Derived.Test.YtphopnfnjnieaaaGreatDoorLines
import Derived.Lib.MapLaws
namespace Go.Proofs.YtphopnfnjnieaaaGreatDoor
open Go.RowKit Tx

theorem encodeRune_enc {v : Nat} (h : sane v) : Lib.encodeRune (v : Int) = enc v := by
  have h0 := h
  unfold sane at h0
  have tu : ∀ k : Nat, k.toUInt8 = UInt8.ofNat k := fun k => rfl
  unfold Lib.encodeRune Lib.encodeRuneZ
  rcases enc_cases h with ⟨a, e⟩ | ⟨a, b, e⟩ | ⟨a, b, e⟩ | ⟨a, b, e⟩ <;> rw [e]
  · rw [if_pos (by omega)]
    simp
  · rw [if_neg (by omega), if_pos (by omega)]
    simp only [List.map_cons, List.map_nil, tu]
    rw [show ((192 : Int) + (v : Int) / 64).toNat = 192 + v / 64 by omega, show ((128 : Int) + (v : Int) % 64).toNat = 128 + v % 64 by omega]
  · rw [if_neg (by omega), if_neg (by omega), if_pos (by omega)]
    simp only [List.map_cons, List.map_nil, tu]
    rw [show ((224 : Int) + (v : Int) / 4096).toNat = 224 + v / 4096 by omega, show ((128 : Int) + (v : Int) / 64 % 64).toNat = 128 + v / 64 % 64 by omega, show ((128 : Int) + (v : Int) % 64).toNat = 128 + v % 64 by omega]
  · rw [if_neg (by omega), if_neg (by omega), if_neg (by omega), if_pos (by omega)]
    simp only [List.map_cons, List.map_nil, tu]
    rw [show ((240 : Int) + (v : Int) / 262144).toNat = 240 + v / 262144 by omega, show ((128 : Int) + (v : Int) / 4096 % 64).toNat = 128 + v / 4096 % 64 by omega, show ((128 : Int) + (v : Int) / 64 % 64).toNat = 128 + v / 64 % 64 by omega, show ((128 : Int) + (v : Int) % 64).toNat = 128 + v % 64 by omega]
theorem dc_lib (l : List UInt8) : Lib.decodeL l = dc l := by
  have := Lib.decodeL_N l
  rw [this, dc_eq]
theorem enc_take {l : List UInt8} (hl : l ≠ []) (h : dc l ≠ (65533, 1)) : enc (dc l).1 = l.take (dc l).2 := by
  have h2 := Lib.encode_decode l hl (by rw [dc_lib]; rintro ⟨a, b⟩; exact h (Prod.ext a b))
  rw [dc_lib] at h2
  have hs : sane (dc l).1 := by
    have h3 := dc_valid l
    have h4 := dc_rune l
    unfold sane
    omega
  rw [← encodeRune_enc hs]
  exact h2
theorem ch_flat_back : ∀ (n : Nat) (l : List UInt8) (cs : List Nat), l.length ≤ n → ch l = some cs → flat cs = l
  | n, [], cs, _, h => by
    rw [ch_nil] at h
    obtain rfl : [] = cs := Option.some.inj h
    exact flat_nil
  | 0, _ :: _, _, h, _ => by simp at h
  | n + 1, a :: t, cs, hn, h => by
    by_cases hz : (nx (a :: t)).2 = 0
    · rw [ch_bad (by simp) hz] at h; cases h
    · obtain ⟨e, h1, h2⟩ := nx_some hz
      rw [ch_good (by simp) hz, e] at h
      have hge := dc_ge1 (a :: t)
      cases hr : ch ((a :: t).drop (dc (a :: t)).2) with
      | none => rw [hr] at h; cases h
      | some rest =>
        rw [hr] at h
        obtain rfl : (dc (a :: t)).1 :: rest = cs := Option.some.inj h
        have ih := ch_flat_back n _ rest (by rw [List.length_drop]; simp at hn ⊢; omega) hr
        rw [show (dc (a :: t)).1 :: rest = [(dc (a :: t)).1] ++ rest from rfl, flat_append, flat_one, ih, enc_take (by simp) h1, List.take_append_drop]
theorem ch_good_all : ∀ (n : Nat) (l : List UInt8) (cs : List Nat), l.length ≤ n → ch l = some cs → ∀ c ∈ cs, sane c ∧ okc c = true
  | n, [], cs, _, h => by
    rw [ch_nil] at h
    obtain rfl : [] = cs := Option.some.inj h
    intro c hc
    cases hc
  | 0, _ :: _, _, h, _ => by simp at h
  | n + 1, a :: t, cs, hn, h => by
    by_cases hz : (nx (a :: t)).2 = 0
    · rw [ch_bad (by simp) hz] at h; cases h
    · obtain ⟨e, h1, h2⟩ := nx_some hz
      rw [ch_good (by simp) hz, e] at h
      have hge := dc_ge1 (a :: t)
      cases hr : ch ((a :: t).drop (dc (a :: t)).2) with
      | none => rw [hr] at h; cases h
      | some rest =>
        rw [hr] at h
        obtain rfl : (dc (a :: t)).1 :: rest = cs := Option.some.inj h
        intro c hc
        rcases List.mem_cons.1 hc with rfl | hc
        · refine ⟨?_, h2⟩
          have h3 := dc_valid (a :: t)
          have h4 := dc_rune (a :: t)
          unfold sane
          omega
        · exact ch_good_all n _ rest (by rw [List.length_drop]; simp at hn ⊢; omega) hr c hc
end Go.Proofs.YtphopnfnjnieaaaGreatDoor
