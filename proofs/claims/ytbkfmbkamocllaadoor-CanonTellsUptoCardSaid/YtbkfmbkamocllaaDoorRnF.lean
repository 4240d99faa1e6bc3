/-
  cardexref08: write, Canon.
-/
import Derived.Test.YtbkfmbkamocllaaDoorRnD
import Derived.Test.YtbkfmbkamocllaaDoorRnE
namespace Go.Proofs.YtbkfmbkamocllaaDoor
open Go.RowKit Tk Tr Cn

theorem rwrite_any (v : Value) (ns : List Nd) (hR : Right ns) (hS : (ns.map ownL).sum ≤ 1000000000) : ∀ (f i : Nat) (sp : List UInt8) (w : World), ReadM w v ns → i < ns.length → 13 ≤ f + (up ns (i : Int)).length →
    Calls Tryd.prog 14 #[v, .int .i64 i, .string (bts sp)] w fun e w' => e = .returned (.string (bts (writeF ns f i sp))) ∧ Below w.heap.size w w'
  | 0, i, sp, w, _, hi, hf => by
    have := hR.depth hi
    omega
  | f + 1, i, sp, w, hv, hi, hf => by
    obtain ⟨x, hx⟩ : ∃ x, ns[i]? = some x := ⟨_, List.getElem?_eq_getElem hi⟩
    by_cases heq : x.2.2.2.1 = sp
    · exact rwrite_eq v ns hR hS f (rwrite_any v ns hR hS f) i sp w hv hi hf x hx heq
    · exact rwrite_ne v ns hR hS f (rwrite_any v ns hR hS f) i sp w hv hi hf x hx heq
set_option maxHeartbeats 2000000 in
set_option maxRecDepth 100000 in
/-- Canon -/
theorem rCanon_any (v : Value) (ns : List Nd) (w : World) (hv : ReadM w v ns) (hl : ns.length ≤ 1000000) (hS : (ns.map ownL).sum ≤ 1000000000) :
    Calls Tryd.prog 8 #[v] w fun e w' => e = .returned (writeV ns) ∧ Below w.heap.size w w' := by
  have HRi := Lib.hid (canonRight_any v ns w hv.reads hl hS)
  have HEl : Hid (rightB ns = true → ∀ W, Below w.heap.size w W → Calls Tryd.prog 14 #[v, .int .i64 0, .string ⟨#[]⟩] W fun e w' => e = .returned (.string (bts (writeF ns 12 0 []))) ∧ Below W.heap.size W w') := fun hr W hW => by
    have hR := right_iff.1 hr
    exact rwrite_any v ns hR hS 12 0 [] W (hv.below hW) hR.pos (by rw [up_pos hR.low, hR.first, up_neg (by decide)]; decide)
  have HV : Hid (writeV ns = if rightB ns then .tuple #[.string (bts (canonT ns)), .int .i64 0] else .tuple #[.string ⟨#[]⟩, .int .i64 6]) := rfl
  have HSz : Hid (rightB ns = true → (bts (writeF ns 12 0 [])).size ≤ 1000000000) := fun hr => by
    have hR := right_iff.1 hr
    rw [bts_size]
    exact Nat.le_trans (write_le hR hR.pos) hS
  have hcat := canon_cat (writeF ns 12 0 [])
  obtain ⟨A, cap, rfl, -⟩ := hv
  obtain ⟨WF, hWF⟩ : ∃ y, bts (writeF ns 12 0 []) = y := ⟨_, rfl⟩
  rw [hWF] at HEl HSz hcat
  obtain ⟨n, hn⟩ : ∃ n, ns.length = n := ⟨_, rfl⟩
  rw [hn] at HRi HEl ⊢
  clear hn hl hS hWF
  cases hr : rightB ns with
  | false =>
    rw [hr] at HRi
    have HR : Hid (writeV ns = .tuple #[.string ⟨#[]⟩, .int .i64 6]) := by unfold Hid; rw [HV.out, hr]; rfl
    clear hr hcat
    go_enter Tryd.func8, Tryd.ntmps8
    go_wp2_with (go_at_call 10; refine HRi.out.mono ?_; rintro e w1 ⟨rfl, b1⟩)
    refine bodyPost_ret (v := .tuple #[.string ⟨#[]⟩, .int .i64 6]) (by simp [results, Tryd.results8, go_sem]) rfl ⟨by rw [HR.out], b1⟩
  | true =>
    rw [hr] at HRi
    have HR : Hid (writeV ns = .tuple #[.string (bts (canonT ns)), .int .i64 0]) := by unfold Hid; rw [HV.out, hr]; rfl
    have HEl2 := Lib.hid (HEl.out hr)
    have hsz := HSz.out hr
    have HCT : Hid (bts (canonT ns) = bts (headL ++ (10 :: writeF ns 12 0 []))) := rfl
    obtain ⟨CT, hCT⟩ : ∃ y, bts (headL ++ (10 :: writeF ns 12 0 [])) = y := ⟨_, rfl⟩
    rw [hCT] at hcat HCT
    rw [HCT.out] at HR
    clear hr hCT
    go_enter Tryd.func8, Tryd.ntmps8
    go_wp2_with (first | (go_at_call 10; refine HRi.out.mono ?_; rintro e w1 ⟨rfl, b1⟩) | (go_at_call 14; refine (HEl2.out _ b1).mono ?_; rintro e w2 ⟨rfl, b2⟩))
    refine bodyPost_ret (v := .tuple #[.string CT, .int .i64 0]) (by simp [results, Tryd.results8, go_sem]) rfl ⟨by rw [HR.out], b1.trans (b2.mono b1.size)⟩
end Go.Proofs.YtbkfmbkamocllaaDoor
