/-
  DERIVED. GIVEN WITH THE SEED: THE CARDS: each row of YtjdpdkghfbaddaaDoorRows.lean that lists a variable, with what it lists TIED to the program's text (the seventh form; the later family's looks); each row that meets fmt, with fmt's text TOLD by the authors' own Lean function (tested against real Go, not proved from fmt's source: count such statements apart). THE CARD IS WHAT COUNTS. Prove the row's statement (the work); the ties are given (YtjdpdkghfbaddaaDoorTie.lean); close each card by the builder's one call (the guide's Derived/Test/ToyasCard.lean, 'card_holds'). Laid BY PROGRAM, IN A SANDBOX (cutbox-door.mjs). By AI agents, Wed Nov 11 2026. No macro, syntax, notation, axiom, sorry.
-/
import Derived.Test.YtjdpdkghfbaddaaDoorRows
import GoSem.ClaimSeven
namespace Go.Proofs.YtjdpdkghfbaddaaDoor
namespace Rows

/-- THE TIED CARD OF 'cardexlaw03.FoldTells'. -/
def foldTellsCard : Claim7 := { stood := { row := foldTellsRow, standIns := [], harness := (true, "5554ef619f08ca41c1665f8865ba651298c87a8d9d47ed9557f1a9d6ccce8e19"), looks := false }, kinds := [], alts := [], laidByText := true, laidKinds := [.data, .pinned], laidTests := true, laidLooks := .later }
def FoldTellsCardSaid : Prop := Claim7.holds Tryd.pinned (.plain (OpenSpec.ofChange foldTellsSpec)) foldTellsCard

/-- THE TIED CARD OF 'cardexlaw03.FoldBack'. -/
def foldBackCard : Claim7 := { stood := { row := foldBackRow, standIns := [], harness := (true, "5554ef619f08ca41c1665f8865ba651298c87a8d9d47ed9557f1a9d6ccce8e19"), looks := false }, kinds := [], alts := [], laidByText := true, laidKinds := [.data, .pinned], laidTests := true, laidLooks := .later }
def FoldBackCardSaid : Prop := Claim7.holds Tryd.pinned (.plain (OpenSpec.ofChange foldBackSpec)) foldBackCard

/-- THE TIED CARD OF 'cardexlaw03.FoldValues'. -/
def foldValuesCard : Claim7 := { stood := { row := foldValuesRow, standIns := [], harness := (true, "5554ef619f08ca41c1665f8865ba651298c87a8d9d47ed9557f1a9d6ccce8e19"), looks := false }, kinds := [], alts := [], laidByText := true, laidKinds := [.data, .pinned], laidTests := true, laidLooks := .later }
def FoldValuesCardSaid : Prop := Claim7.holds Tryd.pinned (.plain (OpenSpec.ofChange foldValuesSpec)) foldValuesCard

/-- THE TIED CARD OF 'cardexlaw03.FoldRefuses'. -/
def foldRefusesCard : Claim7 := { stood := { row := foldRefusesRow, standIns := [], harness := (true, "5554ef619f08ca41c1665f8865ba651298c87a8d9d47ed9557f1a9d6ccce8e19"), looks := false }, kinds := [], alts := [], laidByText := true, laidKinds := [.data, .pinned], laidTests := true, laidLooks := .later }
def FoldRefusesCardSaid : Prop := Claim7.holds Tryd.pinned (.plain (OpenSpec.ofChange foldRefusesSpec)) foldRefusesCard

/-- THE TIED CARD OF 'cardexlaw03.FoldRows'. -/
def foldRowsCard : Claim7 := { stood := { row := foldRowsRow, standIns := [], harness := (true, "5554ef619f08ca41c1665f8865ba651298c87a8d9d47ed9557f1a9d6ccce8e19"), looks := false }, kinds := [], alts := [], laidByText := true, laidKinds := [.data, .pinned], laidTests := true, laidLooks := .later }
def FoldRowsCardSaid : Prop := Claim7.holds Tryd.pinned (.plain (OpenSpec.ofChange foldRowsSpec)) foldRowsCard

/-- THE TIED CARD OF 'cardexlaw03.FoldAnywhere'. -/
def foldAnywhereCard : Claim7 := { stood := { row := foldAnywhereRow, standIns := [], harness := (true, "5554ef619f08ca41c1665f8865ba651298c87a8d9d47ed9557f1a9d6ccce8e19"), looks := false }, kinds := [], alts := [], laidByText := true, laidKinds := [.data, .pinned], laidTests := true, laidLooks := .later }
def FoldAnywhereCardSaid : Prop := Claim7.holds Tryd.pinned (.plain (OpenSpec.ofChange foldAnywhereSpec)) foldAnywhereCard

/-- THE SECOND FORM's CARD OF 'cardexlaw03.FoldTells'. -/
def foldTellsUptoCard : Claim7 := { stood := { row := foldTellsUptoRow, standIns := [], harness := (true, "5554ef619f08ca41c1665f8865ba651298c87a8d9d47ed9557f1a9d6ccce8e19"), looks := false }, kinds := [], alts := [], laidByText := true, laidKinds := [.data, .pinned], laidTests := true, laidLooks := .later }
def FoldTellsUptoCardSaid : Prop := Claim7.holds Tryd.pinned (.plain (OpenSpec.upto foldTellsSpec)) foldTellsUptoCard

/-- THE SECOND FORM's CARD OF 'cardexlaw03.FoldBack'. -/
def foldBackUptoCard : Claim7 := { stood := { row := foldBackUptoRow, standIns := [], harness := (true, "5554ef619f08ca41c1665f8865ba651298c87a8d9d47ed9557f1a9d6ccce8e19"), looks := false }, kinds := [], alts := [], laidByText := true, laidKinds := [.data, .pinned], laidTests := true, laidLooks := .later }
def FoldBackUptoCardSaid : Prop := Claim7.holds Tryd.pinned (.plain (OpenSpec.upto foldBackSpec)) foldBackUptoCard

/-- THE SECOND FORM's CARD OF 'cardexlaw03.FoldValues'. -/
def foldValuesUptoCard : Claim7 := { stood := { row := foldValuesUptoRow, standIns := [], harness := (true, "5554ef619f08ca41c1665f8865ba651298c87a8d9d47ed9557f1a9d6ccce8e19"), looks := false }, kinds := [], alts := [], laidByText := true, laidKinds := [.data, .pinned], laidTests := true, laidLooks := .later }
def FoldValuesUptoCardSaid : Prop := Claim7.holds Tryd.pinned (.plain (OpenSpec.upto foldValuesSpec)) foldValuesUptoCard

/-- THE SECOND FORM's CARD OF 'cardexlaw03.FoldRefuses'. -/
def foldRefusesUptoCard : Claim7 := { stood := { row := foldRefusesUptoRow, standIns := [], harness := (true, "5554ef619f08ca41c1665f8865ba651298c87a8d9d47ed9557f1a9d6ccce8e19"), looks := false }, kinds := [], alts := [], laidByText := true, laidKinds := [.data, .pinned], laidTests := true, laidLooks := .later }
def FoldRefusesUptoCardSaid : Prop := Claim7.holds Tryd.pinned (.plain (OpenSpec.upto foldRefusesSpec)) foldRefusesUptoCard

/-- THE SECOND FORM's CARD OF 'cardexlaw03.FoldRows'. -/
def foldRowsUptoCard : Claim7 := { stood := { row := foldRowsUptoRow, standIns := [], harness := (true, "5554ef619f08ca41c1665f8865ba651298c87a8d9d47ed9557f1a9d6ccce8e19"), looks := false }, kinds := [], alts := [], laidByText := true, laidKinds := [.data, .pinned], laidTests := true, laidLooks := .later }
def FoldRowsUptoCardSaid : Prop := Claim7.holds Tryd.pinned (.plain (OpenSpec.upto foldRowsSpec)) foldRowsUptoCard

/-- THE SECOND FORM's CARD OF 'cardexlaw03.FoldAnywhere'. -/
def foldAnywhereUptoCard : Claim7 := { stood := { row := foldAnywhereUptoRow, standIns := [], harness := (true, "5554ef619f08ca41c1665f8865ba651298c87a8d9d47ed9557f1a9d6ccce8e19"), looks := false }, kinds := [], alts := [], laidByText := true, laidKinds := [.data, .pinned], laidTests := true, laidLooks := .later }
def FoldAnywhereUptoCardSaid : Prop := Claim7.holds Tryd.pinned (.plain (OpenSpec.upto foldAnywhereSpec)) foldAnywhereUptoCard
end Rows
end Go.Proofs.YtjdpdkghfbaddaaDoor
