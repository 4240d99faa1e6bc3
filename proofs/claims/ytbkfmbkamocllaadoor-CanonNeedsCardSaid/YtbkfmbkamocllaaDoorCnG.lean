/-
  package canon: Write.
-/
import Derived.Test.YtbkfmbkamocllaaDoorCnF
namespace Go.Proofs.YtbkfmbkamocllaaDoor
open Go.RowKit Tk Tr Cn

/-- What Write answers. -/
def writeV (ns : List Nd) : Value := if rightB ns then .tuple #[.string (bts (canonT ns)), .int .i64 0] else .tuple #[.string ⟨#[]⟩, .int .i64 6]
theorem szN_of {ns : List Nd} (hS : (ns.map ownL).sum ≤ 1000000000) : ∀ x ∈ ns, SzN x := fun x hx => by
  have h : 20 + 2 * x.2.2.1.length + 6 * x.2.2.2.1.length + 6 * x.2.2.2.2.2.length + ownA x.2.2.2.2.1 ≤ 1000000000 := Nat.le_trans (own_le hx) hS
  have hc := ownA_count x.2.2.2.2.1
  refine ⟨by omega, by omega, by omega, ?_, fun a ha => ?_⟩
  · omega
  · have := ownA_mem ha
    omega
theorem canon_cat (l : List UInt8) : (⟨#[60, 63, 120, 109, 108, 32, 118, 101, 114, 115, 105, 111, 110, 61, 39, 49, 46, 48, 39, 32, 101, 110, 99, 111, 100, 105, 110, 103, 61, 39, 85, 84, 70, 45, 56, 39, 63, 62, 10]⟩ ++ bts l : ByteArray) = bts (headL ++ (10 :: l)) := by
  apply ByteArray.ext
  apply Array.ext'
  simp [headL]
set_option maxHeartbeats 2000000 in
set_option maxRecDepth 100000 in
/-- Write -/
theorem write_any (v : Value) (ns : List Nd) (w : World) (hT : Tabs w) (hv : ReadM w v ns) (hl : ns.length ≤ 1000000) (hS : (ns.map ownL).sum ≤ 1000000000) :
    Calls Tryd.prog 7 #[v] w fun e w' => e = .returned (writeV ns) ∧ Below w.heap.size w w' := by
  have HRi := Lib.hid (right_any v ns w hT hv hl (szN_of hS))
  have HEl : Hid (rightB ns = true → ∀ W, Below w.heap.size w W → Calls Tryd.prog 13 #[v, .int .i64 0] W fun e w' => e = .returned (.string (bts (writeF ns 12 0 []))) ∧ Below W.heap.size W w') := fun hr W hW => by
    have hR := right_iff.1 hr
    have h := element_any v ns hR hS 12 0 W (hv.below hW) hR.pos (by rw [up_pos hR.low, hR.first, up_neg (by decide)]; decide)
    rw [hR.first] at h
    exact h
  have HV : Hid (writeV ns = if rightB ns then .tuple #[.string (bts (canonT ns)), .int .i64 0] else .tuple #[.string ⟨#[]⟩, .int .i64 6]) := rfl
  have HSz : Hid (rightB ns = true → (bts (writeF ns 12 0 [])).size ≤ 1000000000) := fun hr => by
    have hR := right_iff.1 hr
    rw [bts_size]
    exact Nat.le_trans (write_le hR hR.pos) hS
  have hcat := canon_cat (writeF ns 12 0 [])
  obtain ⟨A, cap, rfl, -⟩ := hv
  obtain ⟨WF, hWF⟩ : ∃ y, bts (writeF ns 12 0 []) = y := ⟨_, rfl⟩
  rw [hWF] at HEl HSz hcat
  obtain ⟨n, hn⟩ : ∃ n, ns.length = n := ⟨_, rfl⟩
  rw [hn] at HRi HEl ⊢
  clear hn hl hS hWF hT
  cases hr : rightB ns with
  | false =>
    rw [hr] at HRi
    have HR : Hid (writeV ns = .tuple #[.string ⟨#[]⟩, .int .i64 6]) := by unfold Hid; rw [HV.out, hr]; rfl
    clear hr hcat
    go_enter Tryd.func7, Tryd.ntmps7
    go_wp2_with (go_at_call 9; refine HRi.out.mono ?_; rintro e w1 ⟨rfl, b1⟩)
    refine bodyPost_ret (v := .tuple #[.string ⟨#[]⟩, .int .i64 6]) (by simp [results, Tryd.results7, go_sem]) rfl ⟨by rw [HR.out], b1⟩
  | true =>
    rw [hr] at HRi
    have HR : Hid (writeV ns = .tuple #[.string (bts (canonT ns)), .int .i64 0]) := by unfold Hid; rw [HV.out, hr]; rfl
    have HEl2 := Lib.hid (HEl.out hr)
    have hsz := HSz.out hr
    have HCT : Hid (bts (canonT ns) = bts (headL ++ (10 :: writeF ns 12 0 []))) := rfl
    obtain ⟨CT, hCT⟩ : ∃ y, bts (headL ++ (10 :: writeF ns 12 0 [])) = y := ⟨_, rfl⟩
    rw [hCT] at hcat HCT
    rw [HCT.out] at HR
    clear hr hCT
    go_enter Tryd.func7, Tryd.ntmps7
    go_wp2_with (first | (go_at_call 9; refine HRi.out.mono ?_; rintro e w1 ⟨rfl, b1⟩) | (go_at_call 13; refine (HEl2.out _ b1).mono ?_; rintro e w2 ⟨rfl, b2⟩))
    refine bodyPost_ret (v := .tuple #[.string CT, .int .i64 0]) (by simp [results, Tryd.results7, go_sem]) rfl ⟨by rw [HR.out], b1.trans (b2.mono b1.size)⟩
end Go.Proofs.YtbkfmbkamocllaaDoor
