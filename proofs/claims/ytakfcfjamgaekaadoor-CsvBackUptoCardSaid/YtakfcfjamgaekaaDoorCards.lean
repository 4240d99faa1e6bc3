/-
  DERIVED. GIVEN WITH THE SEED: THE CARDS: each row of YtakfcfjamgaekaaDoorRows.lean that lists a variable, with what it lists TIED to the program's text (the seventh form; the later family's looks); each row that meets fmt, with fmt's text TOLD by the authors' own Lean function (tested against real Go, not proved from fmt's source: count such statements apart). THE CARD IS WHAT COUNTS. Prove the row's statement (the work); the ties are given (YtakfcfjamgaekaaDoorTie.lean); close each card by the builder's one call (the guide's Derived/Test/ToyasCard.lean, 'card_holds'). Laid BY PROGRAM, IN A SANDBOX (cutbox-door.mjs). By AI agents, Wed Nov 11 2026. No macro, syntax, notation, axiom, sorry.
-/
import Derived.Test.YtakfcfjamgaekaaDoorRows
import GoSem.ClaimSeven
namespace Go.Proofs.YtakfcfjamgaekaaDoor
namespace Rows

/-- THE TIED CARD OF 'cardexlaw04.CsvBack'. -/
def csvBackCard : Claim7 := { stood := { row := csvBackRow, standIns := [], harness := (true, "db993d75213520d24d38f40e591e7d7487025bbf7258be2256188ac27c8eb545"), looks := false }, kinds := [], alts := [], laidByText := true, laidKinds := [.data, .pinned], laidTests := true, laidLooks := .later }
def CsvBackCardSaid : Prop := Claim7.holds Tryd.pinned (.plain (OpenSpec.ofChange csvBackSpec)) csvBackCard

/-- THE TIED CARD OF 'cardexlaw04.CsvBounds'. -/
def csvBoundsCard : Claim7 := { stood := { row := csvBoundsRow, standIns := [], harness := (true, "db993d75213520d24d38f40e591e7d7487025bbf7258be2256188ac27c8eb545"), looks := false }, kinds := [], alts := [], laidByText := true, laidKinds := [.data, .pinned], laidTests := true, laidLooks := .later }
def CsvBoundsCardSaid : Prop := Claim7.holds Tryd.pinned (.plain (OpenSpec.ofChange csvBoundsSpec)) csvBoundsCard

/-- THE TIED CARD OF 'cardexlaw04.CsvFields'. -/
def csvFieldsCard : Claim7 := { stood := { row := csvFieldsRow, standIns := [], harness := (true, "db993d75213520d24d38f40e591e7d7487025bbf7258be2256188ac27c8eb545"), looks := false }, kinds := [], alts := [], laidByText := true, laidKinds := [.data, .pinned], laidTests := true, laidLooks := .later }
def CsvFieldsCardSaid : Prop := Claim7.holds Tryd.pinned (.plain (OpenSpec.ofChange csvFieldsSpec)) csvFieldsCard

/-- THE SECOND FORM's CARD OF 'cardexlaw04.CsvBack'. -/
def csvBackUptoCard : Claim7 := { stood := { row := csvBackUptoRow, standIns := [], harness := (true, "db993d75213520d24d38f40e591e7d7487025bbf7258be2256188ac27c8eb545"), looks := false }, kinds := [], alts := [], laidByText := true, laidKinds := [.data, .pinned], laidTests := true, laidLooks := .later }
def CsvBackUptoCardSaid : Prop := Claim7.holds Tryd.pinned (.plain (OpenSpec.upto csvBackSpec)) csvBackUptoCard

/-- THE SECOND FORM's CARD OF 'cardexlaw04.CsvBounds'. -/
def csvBoundsUptoCard : Claim7 := { stood := { row := csvBoundsUptoRow, standIns := [], harness := (true, "db993d75213520d24d38f40e591e7d7487025bbf7258be2256188ac27c8eb545"), looks := false }, kinds := [], alts := [], laidByText := true, laidKinds := [.data, .pinned], laidTests := true, laidLooks := .later }
def CsvBoundsUptoCardSaid : Prop := Claim7.holds Tryd.pinned (.plain (OpenSpec.upto csvBoundsSpec)) csvBoundsUptoCard

/-- THE SECOND FORM's CARD OF 'cardexlaw04.CsvFields'. -/
def csvFieldsUptoCard : Claim7 := { stood := { row := csvFieldsUptoRow, standIns := [], harness := (true, "db993d75213520d24d38f40e591e7d7487025bbf7258be2256188ac27c8eb545"), looks := false }, kinds := [], alts := [], laidByText := true, laidKinds := [.data, .pinned], laidTests := true, laidLooks := .later }
def CsvFieldsUptoCardSaid : Prop := Claim7.holds Tryd.pinned (.plain (OpenSpec.upto csvFieldsSpec)) csvFieldsUptoCard
end Rows
end Go.Proofs.YtakfcfjamgaekaaDoor
