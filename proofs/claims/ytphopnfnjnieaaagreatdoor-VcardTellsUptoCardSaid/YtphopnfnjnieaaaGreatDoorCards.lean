/-
  DERIVED. GIVEN WITH THE SEED: THE CARDS: each row of YtphopnfnjnieaaaGreatDoorRows.lean that lists a variable, with what it lists TIED to the program's text (the seventh form; the later family's looks); each row that meets fmt, with fmt's text TOLD by the authors' own Lean function (tested against real Go, not proved from fmt's source: count such statements apart). THE CARD IS WHAT COUNTS. Prove the row's statement (the work); the ties are given (YtphopnfnjnieaaaGreatDoorTie.lean); close each card by the builder's one call (the guide's Derived/Test/ToyasCard.lean, 'card_holds'). Laid BY PROGRAM, IN A SANDBOX (cutbox-door.mjs). By AI agents, Wed Nov 11 2026. No macro, syntax, notation, axiom, sorry.
-/
import Derived.Test.YtphopnfnjnieaaaGreatDoorRows
import GoSem.ClaimSeven
namespace Go.Proofs.YtphopnfnjnieaaaGreatDoor
namespace Rows

/-- THE TIED CARD OF 'cardexlaw11.VcardTells'. -/
def vcardTellsCard : Claim7 := { stood := { row := vcardTellsRow, standIns := [], harness := (true, "5578bca6bd23edbf5ac7e5cbf4aef7eefddaefbc857018966c482149d2830baa"), looks := false }, kinds := [], alts := [], laidByText := true, laidKinds := [.data, .data, .data, .pinned, .pinned], laidTests := true, laidLooks := .later }
def VcardTellsCardSaid : Prop := Claim7.holds Tryz.pinned (.plain (OpenSpec.ofChange vcardTellsSpec)) vcardTellsCard

/-- THE TIED CARD OF 'cardexlaw11.VcardBack'. -/
def vcardBackCard : Claim7 := { stood := { row := vcardBackRow, standIns := [], harness := (true, "5578bca6bd23edbf5ac7e5cbf4aef7eefddaefbc857018966c482149d2830baa"), looks := false }, kinds := [], alts := [], laidByText := true, laidKinds := [.data, .data, .data, .pinned, .pinned], laidTests := true, laidLooks := .later }
def VcardBackCardSaid : Prop := Claim7.holds Tryz.pinned (.plain (OpenSpec.ofChange vcardBackSpec)) vcardBackCard

/-- THE TIED CARD OF 'cardexlaw11.VcardCapitals'. -/
def vcardCapitalsCard : Claim7 := { stood := { row := vcardCapitalsRow, standIns := [], harness := (true, "5578bca6bd23edbf5ac7e5cbf4aef7eefddaefbc857018966c482149d2830baa"), looks := false }, kinds := [], alts := [], laidByText := true, laidKinds := [.data, .data, .data, .pinned, .pinned], laidTests := true, laidLooks := .later }
def VcardCapitalsCardSaid : Prop := Claim7.holds Tryz.pinned (.plain (OpenSpec.ofChange vcardCapitalsSpec)) vcardCapitalsCard

/-- THE SECOND FORM's CARD OF 'cardexlaw11.VcardTells'. -/
def vcardTellsUptoCard : Claim7 := { stood := { row := vcardTellsUptoRow, standIns := [], harness := (true, "5578bca6bd23edbf5ac7e5cbf4aef7eefddaefbc857018966c482149d2830baa"), looks := false }, kinds := [], alts := [], laidByText := true, laidKinds := [.data, .data, .data, .pinned, .pinned], laidTests := true, laidLooks := .later }
def VcardTellsUptoCardSaid : Prop := Claim7.holds Tryz.pinned (.plain (OpenSpec.upto vcardTellsSpec)) vcardTellsUptoCard

/-- THE SECOND FORM's CARD OF 'cardexlaw11.VcardBack'. -/
def vcardBackUptoCard : Claim7 := { stood := { row := vcardBackUptoRow, standIns := [], harness := (true, "5578bca6bd23edbf5ac7e5cbf4aef7eefddaefbc857018966c482149d2830baa"), looks := false }, kinds := [], alts := [], laidByText := true, laidKinds := [.data, .data, .data, .pinned, .pinned], laidTests := true, laidLooks := .later }
def VcardBackUptoCardSaid : Prop := Claim7.holds Tryz.pinned (.plain (OpenSpec.upto vcardBackSpec)) vcardBackUptoCard

/-- THE SECOND FORM's CARD OF 'cardexlaw11.VcardCapitals'. -/
def vcardCapitalsUptoCard : Claim7 := { stood := { row := vcardCapitalsUptoRow, standIns := [], harness := (true, "5578bca6bd23edbf5ac7e5cbf4aef7eefddaefbc857018966c482149d2830baa"), looks := false }, kinds := [], alts := [], laidByText := true, laidKinds := [.data, .data, .data, .pinned, .pinned], laidTests := true, laidLooks := .later }
def VcardCapitalsUptoCardSaid : Prop := Claim7.holds Tryz.pinned (.plain (OpenSpec.upto vcardCapitalsSpec)) vcardCapitalsUptoCard
end Rows
end Go.Proofs.YtphopnfnjnieaaaGreatDoor
