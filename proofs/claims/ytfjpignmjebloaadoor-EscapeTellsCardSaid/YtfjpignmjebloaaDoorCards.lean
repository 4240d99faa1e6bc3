/-
  DERIVED. GIVEN WITH THE SEED: THE CARDS: each row of YtfjpignmjebloaaDoorRows.lean that lists a variable, with what it lists TIED to the program's text (the seventh form; the later family's looks); each row that meets fmt, with fmt's text TOLD by the authors' own Lean function (tested against real Go, not proved from fmt's source: count such statements apart). THE CARD IS WHAT COUNTS. Prove the row's statement (the work); the ties are given (YtfjpignmjebloaaDoorTie.lean); close each card by the builder's one call (the guide's Derived/Test/ToyasCard.lean, 'card_holds'). Laid BY PROGRAM, IN A SANDBOX (cutbox-door.mjs). By AI agents, Wed Nov 11 2026. No macro, syntax, notation, axiom, sorry.
-/
import Derived.Test.YtfjpignmjebloaaDoorRows
import GoSem.ClaimSeven
namespace Go.Proofs.YtfjpignmjebloaaDoor
namespace Rows

/-- THE TIED CARD OF 'cardexlaw02.EscapeTells'. -/
def escapeTellsCard : Claim7 := { stood := { row := escapeTellsRow, standIns := [], harness := (true, "03f8a729fabc42a2b63cc6c02c8fc2f7c11a508b5a3356e9f561bd271aeadc07"), looks := true }, kinds := [], alts := [], laidByText := true, laidKinds := [.data, .data, .data, .data, .sentinel, .sentinel, .pinned], laidTests := true, laidLooks := .later }
def EscapeTellsCardSaid : Prop := Claim7.holds Tryd.pinned (.plain (OpenSpec.ofChange escapeTellsSpec)) escapeTellsCard

/-- THE TIED CARD OF 'cardexlaw02.EscapeBack'. -/
def escapeBackCard : Claim7 := { stood := { row := escapeBackRow, standIns := [], harness := (true, "03f8a729fabc42a2b63cc6c02c8fc2f7c11a508b5a3356e9f561bd271aeadc07"), looks := true }, kinds := [], alts := [], laidByText := true, laidKinds := [.data, .data, .data, .data, .sentinel, .sentinel, .pinned], laidTests := true, laidLooks := .later }
def EscapeBackCardSaid : Prop := Claim7.holds Tryd.pinned (.plain (OpenSpec.ofChange escapeBackSpec)) escapeBackCard

/-- THE TIED CARD OF 'cardexlaw02.EscapeNumbers'. -/
def escapeNumbersCard : Claim7 := { stood := { row := escapeNumbersRow, standIns := [], harness := (true, "03f8a729fabc42a2b63cc6c02c8fc2f7c11a508b5a3356e9f561bd271aeadc07"), looks := true }, kinds := [], alts := [], laidByText := true, laidKinds := [.data, .data, .data, .data, .sentinel, .sentinel, .pinned], laidTests := true, laidLooks := .later }
def EscapeNumbersCardSaid : Prop := Claim7.holds Tryd.pinned (.plain (OpenSpec.ofChange escapeNumbersSpec)) escapeNumbersCard

/-- THE TIED CARD OF 'cardexlaw02.EscapeRefuses'. -/
def escapeRefusesCard : Claim7 := { stood := { row := escapeRefusesRow, standIns := [], harness := (true, "03f8a729fabc42a2b63cc6c02c8fc2f7c11a508b5a3356e9f561bd271aeadc07"), looks := true }, kinds := [], alts := [], laidByText := true, laidKinds := [.data, .data, .data, .data, .sentinel, .sentinel, .pinned], laidTests := true, laidLooks := .later }
def EscapeRefusesCardSaid : Prop := Claim7.holds Tryd.pinned (.plain (OpenSpec.ofChange escapeRefusesSpec)) escapeRefusesCard

/-- THE TIED CARD OF 'cardexlaw02.EscapeJoins'. -/
def escapeJoinsCard : Claim7 := { stood := { row := escapeJoinsRow, standIns := [], harness := (true, "03f8a729fabc42a2b63cc6c02c8fc2f7c11a508b5a3356e9f561bd271aeadc07"), looks := true }, kinds := [], alts := [], laidByText := true, laidKinds := [.data, .data, .data, .data, .sentinel, .sentinel, .pinned], laidTests := true, laidLooks := .later }
def EscapeJoinsCardSaid : Prop := Claim7.holds Tryd.pinned (.plain (OpenSpec.ofChange escapeJoinsSpec)) escapeJoinsCard

/-- THE SECOND FORM's CARD OF 'cardexlaw02.EscapeTells'. -/
def escapeTellsUptoCard : Claim7 := { stood := { row := escapeTellsUptoRow, standIns := [], harness := (true, "03f8a729fabc42a2b63cc6c02c8fc2f7c11a508b5a3356e9f561bd271aeadc07"), looks := true }, kinds := [], alts := [], laidByText := true, laidKinds := [.data, .data, .data, .data, .sentinel, .sentinel, .pinned], laidTests := true, laidLooks := .later }
def EscapeTellsUptoCardSaid : Prop := Claim7.holds Tryd.pinned (.plain (OpenSpec.upto escapeTellsSpec)) escapeTellsUptoCard

/-- THE SECOND FORM's CARD OF 'cardexlaw02.EscapeBack'. -/
def escapeBackUptoCard : Claim7 := { stood := { row := escapeBackUptoRow, standIns := [], harness := (true, "03f8a729fabc42a2b63cc6c02c8fc2f7c11a508b5a3356e9f561bd271aeadc07"), looks := true }, kinds := [], alts := [], laidByText := true, laidKinds := [.data, .data, .data, .data, .sentinel, .sentinel, .pinned], laidTests := true, laidLooks := .later }
def EscapeBackUptoCardSaid : Prop := Claim7.holds Tryd.pinned (.plain (OpenSpec.upto escapeBackSpec)) escapeBackUptoCard

/-- THE SECOND FORM's CARD OF 'cardexlaw02.EscapeNumbers'. -/
def escapeNumbersUptoCard : Claim7 := { stood := { row := escapeNumbersUptoRow, standIns := [], harness := (true, "03f8a729fabc42a2b63cc6c02c8fc2f7c11a508b5a3356e9f561bd271aeadc07"), looks := true }, kinds := [], alts := [], laidByText := true, laidKinds := [.data, .data, .data, .data, .sentinel, .sentinel, .pinned], laidTests := true, laidLooks := .later }
def EscapeNumbersUptoCardSaid : Prop := Claim7.holds Tryd.pinned (.plain (OpenSpec.upto escapeNumbersSpec)) escapeNumbersUptoCard

/-- THE SECOND FORM's CARD OF 'cardexlaw02.EscapeRefuses'. -/
def escapeRefusesUptoCard : Claim7 := { stood := { row := escapeRefusesUptoRow, standIns := [], harness := (true, "03f8a729fabc42a2b63cc6c02c8fc2f7c11a508b5a3356e9f561bd271aeadc07"), looks := true }, kinds := [], alts := [], laidByText := true, laidKinds := [.data, .data, .data, .data, .sentinel, .sentinel, .pinned], laidTests := true, laidLooks := .later }
def EscapeRefusesUptoCardSaid : Prop := Claim7.holds Tryd.pinned (.plain (OpenSpec.upto escapeRefusesSpec)) escapeRefusesUptoCard

/-- THE SECOND FORM's CARD OF 'cardexlaw02.EscapeJoins'. -/
def escapeJoinsUptoCard : Claim7 := { stood := { row := escapeJoinsUptoRow, standIns := [], harness := (true, "03f8a729fabc42a2b63cc6c02c8fc2f7c11a508b5a3356e9f561bd271aeadc07"), looks := true }, kinds := [], alts := [], laidByText := true, laidKinds := [.data, .data, .data, .data, .sentinel, .sentinel, .pinned], laidTests := true, laidLooks := .later }
def EscapeJoinsUptoCardSaid : Prop := Claim7.holds Tryd.pinned (.plain (OpenSpec.upto escapeJoinsSpec)) escapeJoinsUptoCard
end Rows
end Go.Proofs.YtfjpignmjebloaaDoor
