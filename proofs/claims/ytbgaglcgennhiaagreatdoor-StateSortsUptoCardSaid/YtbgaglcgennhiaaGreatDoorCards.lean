/-
  DERIVED. GIVEN WITH THE SEED: THE CARDS: each row of YtbgaglcgennhiaaGreatDoorRows.lean that lists a variable, with what it lists TIED to the program's text (the seventh form; the later family's looks); each row that meets fmt, with fmt's text TOLD by the authors' own Lean function (tested against real Go, not proved from fmt's source: count such statements apart). THE CARD IS WHAT COUNTS. Prove the row's statement (the work); the ties are given (YtbgaglcgennhiaaGreatDoorTie.lean); close each card by the builder's one call (the guide's Derived/Test/ToyasCard.lean, 'card_holds'). Laid BY PROGRAM, IN A SANDBOX (cutbox-door.mjs). By AI agents, Wed Nov 11 2026. No macro, syntax, notation, axiom, sorry.
-/
import Derived.Test.YtbgaglcgennhiaaGreatDoorRows
import GoSem.ClaimSeven
namespace Go.Proofs.YtbgaglcgennhiaaGreatDoor
namespace Rows

/-- THE TIED CARD OF 'cardexlaw16.StateTells'. -/
def stateTellsCard : Claim7 := { stood := { row := stateTellsRow, standIns := [], harness := (true, "335986cbdfdaede0f16858d85166b83befb6ebb237d58c5fa3e04fc2d3657a69"), looks := false }, kinds := [], alts := [], laidByText := true, laidKinds := [.data, .pinned], laidTests := true, laidLooks := .later }
def StateTellsCardSaid : Prop := Claim7.holds Tryz.pinned (.plain (OpenSpec.ofChange stateTellsSpec)) stateTellsCard

/-- THE TIED CARD OF 'cardexlaw16.StateSorts'. -/
def stateSortsCard : Claim7 := { stood := { row := stateSortsRow, standIns := [], harness := (true, "335986cbdfdaede0f16858d85166b83befb6ebb237d58c5fa3e04fc2d3657a69"), looks := false }, kinds := [], alts := [], laidByText := true, laidKinds := [.data, .pinned], laidTests := true, laidLooks := .later }
def StateSortsCardSaid : Prop := Claim7.holds Tryz.pinned (.plain (OpenSpec.ofChange stateSortsSpec)) stateSortsCard

/-- THE TIED CARD OF 'cardexlaw16.StateNeeds'. -/
def stateNeedsCard : Claim7 := { stood := { row := stateNeedsRow, standIns := [], harness := (true, "335986cbdfdaede0f16858d85166b83befb6ebb237d58c5fa3e04fc2d3657a69"), looks := false }, kinds := [], alts := [], laidByText := true, laidKinds := [.data, .pinned], laidTests := true, laidLooks := .later }
def StateNeedsCardSaid : Prop := Claim7.holds Tryz.pinned (.plain (OpenSpec.ofChange stateNeedsSpec)) stateNeedsCard

/-- THE TIED CARD OF 'cardexlaw16.StatePuts'. -/
def statePutsCard : Claim7 := { stood := { row := statePutsRow, standIns := [], harness := (true, "335986cbdfdaede0f16858d85166b83befb6ebb237d58c5fa3e04fc2d3657a69"), looks := false }, kinds := [], alts := [], laidByText := true, laidKinds := [.data, .pinned], laidTests := true, laidLooks := .later }
def StatePutsCardSaid : Prop := Claim7.holds Tryz.pinned (.plain (OpenSpec.ofChange statePutsSpec)) statePutsCard

/-- THE TIED CARD OF 'cardexlaw16.StateBounds'. -/
def stateBoundsCard : Claim7 := { stood := { row := stateBoundsRow, standIns := [], harness := (true, "335986cbdfdaede0f16858d85166b83befb6ebb237d58c5fa3e04fc2d3657a69"), looks := false }, kinds := [], alts := [], laidByText := true, laidKinds := [.data, .pinned], laidTests := true, laidLooks := .later }
def StateBoundsCardSaid : Prop := Claim7.holds Tryz.pinned (.plain (OpenSpec.ofChange stateBoundsSpec)) stateBoundsCard

/-- THE SECOND FORM's CARD OF 'cardexlaw16.StateTells'. -/
def stateTellsUptoCard : Claim7 := { stood := { row := stateTellsUptoRow, standIns := [], harness := (true, "335986cbdfdaede0f16858d85166b83befb6ebb237d58c5fa3e04fc2d3657a69"), looks := false }, kinds := [], alts := [], laidByText := true, laidKinds := [.data, .pinned], laidTests := true, laidLooks := .later }
def StateTellsUptoCardSaid : Prop := Claim7.holds Tryz.pinned (.plain (OpenSpec.upto stateTellsSpec)) stateTellsUptoCard

/-- THE SECOND FORM's CARD OF 'cardexlaw16.StateSorts'. -/
def stateSortsUptoCard : Claim7 := { stood := { row := stateSortsUptoRow, standIns := [], harness := (true, "335986cbdfdaede0f16858d85166b83befb6ebb237d58c5fa3e04fc2d3657a69"), looks := false }, kinds := [], alts := [], laidByText := true, laidKinds := [.data, .pinned], laidTests := true, laidLooks := .later }
def StateSortsUptoCardSaid : Prop := Claim7.holds Tryz.pinned (.plain (OpenSpec.upto stateSortsSpec)) stateSortsUptoCard

/-- THE SECOND FORM's CARD OF 'cardexlaw16.StateNeeds'. -/
def stateNeedsUptoCard : Claim7 := { stood := { row := stateNeedsUptoRow, standIns := [], harness := (true, "335986cbdfdaede0f16858d85166b83befb6ebb237d58c5fa3e04fc2d3657a69"), looks := false }, kinds := [], alts := [], laidByText := true, laidKinds := [.data, .pinned], laidTests := true, laidLooks := .later }
def StateNeedsUptoCardSaid : Prop := Claim7.holds Tryz.pinned (.plain (OpenSpec.upto stateNeedsSpec)) stateNeedsUptoCard

/-- THE SECOND FORM's CARD OF 'cardexlaw16.StatePuts'. -/
def statePutsUptoCard : Claim7 := { stood := { row := statePutsUptoRow, standIns := [], harness := (true, "335986cbdfdaede0f16858d85166b83befb6ebb237d58c5fa3e04fc2d3657a69"), looks := false }, kinds := [], alts := [], laidByText := true, laidKinds := [.data, .pinned], laidTests := true, laidLooks := .later }
def StatePutsUptoCardSaid : Prop := Claim7.holds Tryz.pinned (.plain (OpenSpec.upto statePutsSpec)) statePutsUptoCard

/-- THE SECOND FORM's CARD OF 'cardexlaw16.StateBounds'. -/
def stateBoundsUptoCard : Claim7 := { stood := { row := stateBoundsUptoRow, standIns := [], harness := (true, "335986cbdfdaede0f16858d85166b83befb6ebb237d58c5fa3e04fc2d3657a69"), looks := false }, kinds := [], alts := [], laidByText := true, laidKinds := [.data, .pinned], laidTests := true, laidLooks := .later }
def StateBoundsUptoCardSaid : Prop := Claim7.holds Tryz.pinned (.plain (OpenSpec.upto stateBoundsSpec)) stateBoundsUptoCard
end Rows
end Go.Proofs.YtbgaglcgennhiaaGreatDoor
