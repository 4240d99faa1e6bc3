/-
  DERIVED. GIVEN WITH THE SEED: THE CARDS: each row of YtphopnfnjnieaaaDoorRows.lean that lists a variable, with what it lists TIED to the program's text (the seventh form; the later family's looks); each row that meets fmt, with fmt's text TOLD by the authors' own Lean function (tested against real Go, not proved from fmt's source: count such statements apart). THE CARD IS WHAT COUNTS. Prove the row's statement (the work); the ties are given (YtphopnfnjnieaaaDoorTie.lean); close each card by the builder's one call (the guide's Derived/Test/ToyasCard.lean, 'card_holds'). Laid BY PROGRAM, IN A SANDBOX (cutbox-door.mjs). By AI agents, Wed Nov 11 2026. No macro, syntax, notation, axiom, sorry.
-/
import Derived.Test.YtphopnfnjnieaaaDoorRows
import GoSem.ClaimSeven
namespace Go.Proofs.YtphopnfnjnieaaaDoor
namespace Rows

/-- THE TIED CARD OF 'cardexlaw11.VcardWrong'. -/
def vcardWrongCard : Claim7 := { stood := { row := vcardWrongRow, standIns := [], harness := (true, "d09262fa0c4c2b37c562845efb193f1471a93d6e3eb50638f1534eee74f8ee66"), looks := false }, kinds := [], alts := [], laidByText := true, laidKinds := [.data, .data, .data, .pinned, .pinned], laidTests := true, laidLooks := .later }
def VcardWrongCardSaid : Prop := Claim7.holds Tryd.pinned (.plain (OpenSpec.ofChange vcardWrongSpec)) vcardWrongCard

/-- THE TIED CARD OF 'cardexlaw11.VcardMany'. -/
def vcardManyCard : Claim7 := { stood := { row := vcardManyRow, standIns := [], harness := (true, "d09262fa0c4c2b37c562845efb193f1471a93d6e3eb50638f1534eee74f8ee66"), looks := false }, kinds := [], alts := [], laidByText := true, laidKinds := [.data, .data, .data, .pinned, .pinned], laidTests := true, laidLooks := .later }
def VcardManyCardSaid : Prop := Claim7.holds Tryd.pinned (.plain (OpenSpec.ofChange vcardManySpec)) vcardManyCard

/-- THE SECOND FORM's CARD OF 'cardexlaw11.VcardWrong'. -/
def vcardWrongUptoCard : Claim7 := { stood := { row := vcardWrongUptoRow, standIns := [], harness := (true, "d09262fa0c4c2b37c562845efb193f1471a93d6e3eb50638f1534eee74f8ee66"), looks := false }, kinds := [], alts := [], laidByText := true, laidKinds := [.data, .data, .data, .pinned, .pinned], laidTests := true, laidLooks := .later }
def VcardWrongUptoCardSaid : Prop := Claim7.holds Tryd.pinned (.plain (OpenSpec.upto vcardWrongSpec)) vcardWrongUptoCard

/-- THE SECOND FORM's CARD OF 'cardexlaw11.VcardMany'. -/
def vcardManyUptoCard : Claim7 := { stood := { row := vcardManyUptoRow, standIns := [], harness := (true, "d09262fa0c4c2b37c562845efb193f1471a93d6e3eb50638f1534eee74f8ee66"), looks := false }, kinds := [], alts := [], laidByText := true, laidKinds := [.data, .data, .data, .pinned, .pinned], laidTests := true, laidLooks := .later }
def VcardManyUptoCardSaid : Prop := Claim7.holds Tryd.pinned (.plain (OpenSpec.upto vcardManySpec)) vcardManyUptoCard
end Rows
end Go.Proofs.YtphopnfnjnieaaaDoor
