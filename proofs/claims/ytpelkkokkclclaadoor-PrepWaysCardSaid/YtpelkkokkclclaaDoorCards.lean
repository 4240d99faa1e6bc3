/-
  DERIVED. GIVEN WITH THE SEED: THE CARDS: each row of YtpelkkokkclclaaDoorRows.lean that lists a variable, with what it lists TIED to the program's text (the seventh form; the later family's looks); each row that meets fmt, with fmt's text TOLD by the authors' own Lean function (tested against real Go, not proved from fmt's source: count such statements apart). THE CARD IS WHAT COUNTS. Prove the row's statement (the work); the ties are given (YtpelkkokkclclaaDoorTie.lean); close each card by the builder's one call (the guide's Derived/Test/ToyasCard.lean, 'card_holds'). Laid BY PROGRAM, IN A SANDBOX (cutbox-door.mjs). By AI agents, Wed Nov 11 2026. No macro, syntax, notation, axiom, sorry.
-/
import Derived.Test.YtpelkkokkclclaaDoorRows
import GoSem.ClaimSeven
namespace Go.Proofs.YtpelkkokkclclaaDoor
namespace Rows

/-- THE TIED CARD OF 'cardexlaw06.PrepTells'. -/
def prepTellsCard : Claim7 := { stood := { row := prepTellsRow, standIns := [], harness := (true, "db4b6d3cbd9396857b5f1508bf3918d50bec01a3fcb337275cdd8c42013bf330"), looks := false }, kinds := [], alts := [], laidByText := true, laidKinds := [.data, .pinned], laidTests := true, laidLooks := .later }
def PrepTellsCardSaid : Prop := Claim7.holds Tryd.pinned (.plain (OpenSpec.ofChange prepTellsSpec)) prepTellsCard

/-- THE TIED CARD OF 'cardexlaw06.PrepStays'. -/
def prepStaysCard : Claim7 := { stood := { row := prepStaysRow, standIns := [], harness := (true, "db4b6d3cbd9396857b5f1508bf3918d50bec01a3fcb337275cdd8c42013bf330"), looks := false }, kinds := [], alts := [], laidByText := true, laidKinds := [.data, .pinned], laidTests := true, laidLooks := .later }
def PrepStaysCardSaid : Prop := Claim7.holds Tryd.pinned (.plain (OpenSpec.ofChange prepStaysSpec)) prepStaysCard

/-- THE TIED CARD OF 'cardexlaw06.PrepEach'. -/
def prepEachCard : Claim7 := { stood := { row := prepEachRow, standIns := [], harness := (true, "db4b6d3cbd9396857b5f1508bf3918d50bec01a3fcb337275cdd8c42013bf330"), looks := false }, kinds := [], alts := [], laidByText := true, laidKinds := [.data, .pinned], laidTests := true, laidLooks := .later }
def PrepEachCardSaid : Prop := Claim7.holds Tryd.pinned (.plain (OpenSpec.ofChange prepEachSpec)) prepEachCard

/-- THE TIED CARD OF 'cardexlaw06.PrepWays'. -/
def prepWaysCard : Claim7 := { stood := { row := prepWaysRow, standIns := [], harness := (true, "db4b6d3cbd9396857b5f1508bf3918d50bec01a3fcb337275cdd8c42013bf330"), looks := false }, kinds := [], alts := [], laidByText := true, laidKinds := [.data, .pinned], laidTests := true, laidLooks := .later }
def PrepWaysCardSaid : Prop := Claim7.holds Tryd.pinned (.plain (OpenSpec.ofChange prepWaysSpec)) prepWaysCard

/-- THE TIED CARD OF 'cardexlaw06.PrepGone'. -/
def prepGoneCard : Claim7 := { stood := { row := prepGoneRow, standIns := [], harness := (true, "db4b6d3cbd9396857b5f1508bf3918d50bec01a3fcb337275cdd8c42013bf330"), looks := false }, kinds := [], alts := [], laidByText := true, laidKinds := [.data, .pinned], laidTests := true, laidLooks := .later }
def PrepGoneCardSaid : Prop := Claim7.holds Tryd.pinned (.plain (OpenSpec.ofChange prepGoneSpec)) prepGoneCard

/-- THE SECOND FORM's CARD OF 'cardexlaw06.PrepTells'. -/
def prepTellsUptoCard : Claim7 := { stood := { row := prepTellsUptoRow, standIns := [], harness := (true, "db4b6d3cbd9396857b5f1508bf3918d50bec01a3fcb337275cdd8c42013bf330"), looks := false }, kinds := [], alts := [], laidByText := true, laidKinds := [.data, .pinned], laidTests := true, laidLooks := .later }
def PrepTellsUptoCardSaid : Prop := Claim7.holds Tryd.pinned (.plain (OpenSpec.upto prepTellsSpec)) prepTellsUptoCard

/-- THE SECOND FORM's CARD OF 'cardexlaw06.PrepStays'. -/
def prepStaysUptoCard : Claim7 := { stood := { row := prepStaysUptoRow, standIns := [], harness := (true, "db4b6d3cbd9396857b5f1508bf3918d50bec01a3fcb337275cdd8c42013bf330"), looks := false }, kinds := [], alts := [], laidByText := true, laidKinds := [.data, .pinned], laidTests := true, laidLooks := .later }
def PrepStaysUptoCardSaid : Prop := Claim7.holds Tryd.pinned (.plain (OpenSpec.upto prepStaysSpec)) prepStaysUptoCard

/-- THE SECOND FORM's CARD OF 'cardexlaw06.PrepEach'. -/
def prepEachUptoCard : Claim7 := { stood := { row := prepEachUptoRow, standIns := [], harness := (true, "db4b6d3cbd9396857b5f1508bf3918d50bec01a3fcb337275cdd8c42013bf330"), looks := false }, kinds := [], alts := [], laidByText := true, laidKinds := [.data, .pinned], laidTests := true, laidLooks := .later }
def PrepEachUptoCardSaid : Prop := Claim7.holds Tryd.pinned (.plain (OpenSpec.upto prepEachSpec)) prepEachUptoCard

/-- THE SECOND FORM's CARD OF 'cardexlaw06.PrepWays'. -/
def prepWaysUptoCard : Claim7 := { stood := { row := prepWaysUptoRow, standIns := [], harness := (true, "db4b6d3cbd9396857b5f1508bf3918d50bec01a3fcb337275cdd8c42013bf330"), looks := false }, kinds := [], alts := [], laidByText := true, laidKinds := [.data, .pinned], laidTests := true, laidLooks := .later }
def PrepWaysUptoCardSaid : Prop := Claim7.holds Tryd.pinned (.plain (OpenSpec.upto prepWaysSpec)) prepWaysUptoCard

/-- THE SECOND FORM's CARD OF 'cardexlaw06.PrepGone'. -/
def prepGoneUptoCard : Claim7 := { stood := { row := prepGoneUptoRow, standIns := [], harness := (true, "db4b6d3cbd9396857b5f1508bf3918d50bec01a3fcb337275cdd8c42013bf330"), looks := false }, kinds := [], alts := [], laidByText := true, laidKinds := [.data, .pinned], laidTests := true, laidLooks := .later }
def PrepGoneUptoCardSaid : Prop := Claim7.holds Tryd.pinned (.plain (OpenSpec.upto prepGoneSpec)) prepGoneUptoCard
end Rows
end Go.Proofs.YtpelkkokkclclaaDoor
