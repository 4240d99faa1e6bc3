/-
  DERIVED. GIVEN WITH THE SEED: THE CARDS: each row of YtfbdnaclkfmiaaaGreatDoorRows.lean that lists a variable, with what it lists TIED to the program's text (the seventh form; the later family's looks); each row that meets fmt, with fmt's text TOLD by the authors' own Lean function (tested against real Go, not proved from fmt's source: count such statements apart). THE CARD IS WHAT COUNTS. Prove the row's statement (the work); the ties are given (YtfbdnaclkfmiaaaGreatDoorTie.lean); close each card by the builder's one call (the guide's Derived/Test/ToyasCard.lean, 'card_holds'). Laid BY PROGRAM, IN A SANDBOX (cutbox-door.mjs). By AI agents, Wed Nov 11 2026. No macro, syntax, notation, axiom, sorry.
-/
import Derived.Test.YtfbdnaclkfmiaaaGreatDoorRows
import GoSem.ClaimSeven
namespace Go.Proofs.YtfbdnaclkfmiaaaGreatDoor
namespace Rows

/-- THE TIED CARD OF 'cardexlaw12.ContactTells'. -/
def contactTellsCard : Claim7 := { stood := { row := contactTellsRow, standIns := [], harness := (true, "ca428f17b14939a2c4323169c33532c186275a337ff640ed1237786f4701fe02"), looks := false }, kinds := [], alts := [], laidByText := true, laidKinds := [.data, .data, .data, .pinned, .pinned], laidTests := true, laidLooks := .later }
def ContactTellsCardSaid : Prop := Claim7.holds Tryz.pinned (.plain (OpenSpec.ofChange contactTellsSpec)) contactTellsCard

/-- THE TIED CARD OF 'cardexlaw12.ContactBack'. -/
def contactBackCard : Claim7 := { stood := { row := contactBackRow, standIns := [], harness := (true, "ca428f17b14939a2c4323169c33532c186275a337ff640ed1237786f4701fe02"), looks := false }, kinds := [], alts := [], laidByText := true, laidKinds := [.data, .data, .data, .pinned, .pinned], laidTests := true, laidLooks := .later }
def ContactBackCardSaid : Prop := Claim7.holds Tryz.pinned (.plain (OpenSpec.ofChange contactBackSpec)) contactBackCard

/-- THE TIED CARD OF 'cardexlaw12.ContactTwice'. -/
def contactTwiceCard : Claim7 := { stood := { row := contactTwiceRow, standIns := [], harness := (true, "ca428f17b14939a2c4323169c33532c186275a337ff640ed1237786f4701fe02"), looks := false }, kinds := [], alts := [], laidByText := true, laidKinds := [.data, .data, .data, .pinned, .pinned], laidTests := true, laidLooks := .later }
def ContactTwiceCardSaid : Prop := Claim7.holds Tryz.pinned (.plain (OpenSpec.ofChange contactTwiceSpec)) contactTwiceCard

/-- THE TIED CARD OF 'cardexlaw12.ContactNeeds'. -/
def contactNeedsCard : Claim7 := { stood := { row := contactNeedsRow, standIns := [], harness := (true, "ca428f17b14939a2c4323169c33532c186275a337ff640ed1237786f4701fe02"), looks := false }, kinds := [], alts := [], laidByText := true, laidKinds := [.data, .data, .data, .pinned, .pinned], laidTests := true, laidLooks := .later }
def ContactNeedsCardSaid : Prop := Claim7.holds Tryz.pinned (.plain (OpenSpec.ofChange contactNeedsSpec)) contactNeedsCard

/-- THE TIED CARD OF 'cardexlaw12.ContactGroups'. -/
def contactGroupsCard : Claim7 := { stood := { row := contactGroupsRow, standIns := [], harness := (true, "ca428f17b14939a2c4323169c33532c186275a337ff640ed1237786f4701fe02"), looks := false }, kinds := [], alts := [], laidByText := true, laidKinds := [.data, .data, .data, .pinned, .pinned], laidTests := true, laidLooks := .later }
def ContactGroupsCardSaid : Prop := Claim7.holds Tryz.pinned (.plain (OpenSpec.ofChange contactGroupsSpec)) contactGroupsCard

/-- THE SECOND FORM's CARD OF 'cardexlaw12.ContactTells'. -/
def contactTellsUptoCard : Claim7 := { stood := { row := contactTellsUptoRow, standIns := [], harness := (true, "ca428f17b14939a2c4323169c33532c186275a337ff640ed1237786f4701fe02"), looks := false }, kinds := [], alts := [], laidByText := true, laidKinds := [.data, .data, .data, .pinned, .pinned], laidTests := true, laidLooks := .later }
def ContactTellsUptoCardSaid : Prop := Claim7.holds Tryz.pinned (.plain (OpenSpec.upto contactTellsSpec)) contactTellsUptoCard

/-- THE SECOND FORM's CARD OF 'cardexlaw12.ContactBack'. -/
def contactBackUptoCard : Claim7 := { stood := { row := contactBackUptoRow, standIns := [], harness := (true, "ca428f17b14939a2c4323169c33532c186275a337ff640ed1237786f4701fe02"), looks := false }, kinds := [], alts := [], laidByText := true, laidKinds := [.data, .data, .data, .pinned, .pinned], laidTests := true, laidLooks := .later }
def ContactBackUptoCardSaid : Prop := Claim7.holds Tryz.pinned (.plain (OpenSpec.upto contactBackSpec)) contactBackUptoCard

/-- THE SECOND FORM's CARD OF 'cardexlaw12.ContactTwice'. -/
def contactTwiceUptoCard : Claim7 := { stood := { row := contactTwiceUptoRow, standIns := [], harness := (true, "ca428f17b14939a2c4323169c33532c186275a337ff640ed1237786f4701fe02"), looks := false }, kinds := [], alts := [], laidByText := true, laidKinds := [.data, .data, .data, .pinned, .pinned], laidTests := true, laidLooks := .later }
def ContactTwiceUptoCardSaid : Prop := Claim7.holds Tryz.pinned (.plain (OpenSpec.upto contactTwiceSpec)) contactTwiceUptoCard

/-- THE SECOND FORM's CARD OF 'cardexlaw12.ContactNeeds'. -/
def contactNeedsUptoCard : Claim7 := { stood := { row := contactNeedsUptoRow, standIns := [], harness := (true, "ca428f17b14939a2c4323169c33532c186275a337ff640ed1237786f4701fe02"), looks := false }, kinds := [], alts := [], laidByText := true, laidKinds := [.data, .data, .data, .pinned, .pinned], laidTests := true, laidLooks := .later }
def ContactNeedsUptoCardSaid : Prop := Claim7.holds Tryz.pinned (.plain (OpenSpec.upto contactNeedsSpec)) contactNeedsUptoCard

/-- THE SECOND FORM's CARD OF 'cardexlaw12.ContactGroups'. -/
def contactGroupsUptoCard : Claim7 := { stood := { row := contactGroupsUptoRow, standIns := [], harness := (true, "ca428f17b14939a2c4323169c33532c186275a337ff640ed1237786f4701fe02"), looks := false }, kinds := [], alts := [], laidByText := true, laidKinds := [.data, .data, .data, .pinned, .pinned], laidTests := true, laidLooks := .later }
def ContactGroupsUptoCardSaid : Prop := Claim7.holds Tryz.pinned (.plain (OpenSpec.upto contactGroupsSpec)) contactGroupsUptoCard
end Rows
end Go.Proofs.YtfbdnaclkfmiaaaGreatDoor
