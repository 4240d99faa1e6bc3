/-
  DERIVED. GIVEN WITH THE SEED: THE CARDS: each row of YtogjhpcjjmcjfaaGreatDoorRows.lean that lists a variable, with what it lists TIED to the program's text (the seventh form; the later family's looks); each row that meets fmt, with fmt's text TOLD by the authors' own Lean function (tested against real Go, not proved from fmt's source: count such statements apart). THE CARD IS WHAT COUNTS. Prove the row's statement (the work); the ties are given (YtogjhpcjjmcjfaaGreatDoorTie.lean); close each card by the builder's one call (the guide's Derived/Test/ToyasCard.lean, 'card_holds'). Laid BY PROGRAM, IN A SANDBOX (cutbox-door.mjs). By AI agents, Wed Nov 11 2026. No macro, syntax, notation, axiom, sorry.
-/
import Derived.Test.YtogjhpcjjmcjfaaGreatDoorRows
import GoSem.ClaimSeven
namespace Go.Proofs.YtogjhpcjjmcjfaaGreatDoor
namespace Rows

/-- THE TIED CARD OF 'cardexlaw14.ItemTells'. -/
def itemTellsCard : Claim7 := { stood := { row := itemTellsRow, standIns := [], harness := (true, "37a72fae59207dbe66028ceffebfba2af1296447af640fb2733c3d2c113f4f9a"), looks := false }, kinds := [], alts := [], laidByText := true, laidKinds := [.data, .pinned], laidTests := true, laidLooks := .later }
def ItemTellsCardSaid : Prop := Claim7.holds Tryz.pinned (.plain (OpenSpec.ofChange itemTellsSpec)) itemTellsCard

/-- THE TIED CARD OF 'cardexlaw14.ItemSorts'. -/
def itemSortsCard : Claim7 := { stood := { row := itemSortsRow, standIns := [], harness := (true, "37a72fae59207dbe66028ceffebfba2af1296447af640fb2733c3d2c113f4f9a"), looks := false }, kinds := [], alts := [], laidByText := true, laidKinds := [.data, .pinned], laidTests := true, laidLooks := .later }
def ItemSortsCardSaid : Prop := Claim7.holds Tryz.pinned (.plain (OpenSpec.ofChange itemSortsSpec)) itemSortsCard

/-- THE TIED CARD OF 'cardexlaw14.ItemModes'. -/
def itemModesCard : Claim7 := { stood := { row := itemModesRow, standIns := [], harness := (true, "37a72fae59207dbe66028ceffebfba2af1296447af640fb2733c3d2c113f4f9a"), looks := false }, kinds := [], alts := [], laidByText := true, laidKinds := [.data, .pinned], laidTests := true, laidLooks := .later }
def ItemModesCardSaid : Prop := Claim7.holds Tryz.pinned (.plain (OpenSpec.ofChange itemModesSpec)) itemModesCard

/-- THE TIED CARD OF 'cardexlaw14.ItemGroups'. -/
def itemGroupsCard : Claim7 := { stood := { row := itemGroupsRow, standIns := [], harness := (true, "37a72fae59207dbe66028ceffebfba2af1296447af640fb2733c3d2c113f4f9a"), looks := false }, kinds := [], alts := [], laidByText := true, laidKinds := [.data, .pinned], laidTests := true, laidLooks := .later }
def ItemGroupsCardSaid : Prop := Claim7.holds Tryz.pinned (.plain (OpenSpec.ofChange itemGroupsSpec)) itemGroupsCard

/-- THE TIED CARD OF 'cardexlaw14.ItemNeeds'. -/
def itemNeedsCard : Claim7 := { stood := { row := itemNeedsRow, standIns := [], harness := (true, "37a72fae59207dbe66028ceffebfba2af1296447af640fb2733c3d2c113f4f9a"), looks := false }, kinds := [], alts := [], laidByText := true, laidKinds := [.data, .pinned], laidTests := true, laidLooks := .later }
def ItemNeedsCardSaid : Prop := Claim7.holds Tryz.pinned (.plain (OpenSpec.ofChange itemNeedsSpec)) itemNeedsCard

/-- THE SECOND FORM's CARD OF 'cardexlaw14.ItemTells'. -/
def itemTellsUptoCard : Claim7 := { stood := { row := itemTellsUptoRow, standIns := [], harness := (true, "37a72fae59207dbe66028ceffebfba2af1296447af640fb2733c3d2c113f4f9a"), looks := false }, kinds := [], alts := [], laidByText := true, laidKinds := [.data, .pinned], laidTests := true, laidLooks := .later }
def ItemTellsUptoCardSaid : Prop := Claim7.holds Tryz.pinned (.plain (OpenSpec.upto itemTellsSpec)) itemTellsUptoCard

/-- THE SECOND FORM's CARD OF 'cardexlaw14.ItemSorts'. -/
def itemSortsUptoCard : Claim7 := { stood := { row := itemSortsUptoRow, standIns := [], harness := (true, "37a72fae59207dbe66028ceffebfba2af1296447af640fb2733c3d2c113f4f9a"), looks := false }, kinds := [], alts := [], laidByText := true, laidKinds := [.data, .pinned], laidTests := true, laidLooks := .later }
def ItemSortsUptoCardSaid : Prop := Claim7.holds Tryz.pinned (.plain (OpenSpec.upto itemSortsSpec)) itemSortsUptoCard

/-- THE SECOND FORM's CARD OF 'cardexlaw14.ItemModes'. -/
def itemModesUptoCard : Claim7 := { stood := { row := itemModesUptoRow, standIns := [], harness := (true, "37a72fae59207dbe66028ceffebfba2af1296447af640fb2733c3d2c113f4f9a"), looks := false }, kinds := [], alts := [], laidByText := true, laidKinds := [.data, .pinned], laidTests := true, laidLooks := .later }
def ItemModesUptoCardSaid : Prop := Claim7.holds Tryz.pinned (.plain (OpenSpec.upto itemModesSpec)) itemModesUptoCard

/-- THE SECOND FORM's CARD OF 'cardexlaw14.ItemGroups'. -/
def itemGroupsUptoCard : Claim7 := { stood := { row := itemGroupsUptoRow, standIns := [], harness := (true, "37a72fae59207dbe66028ceffebfba2af1296447af640fb2733c3d2c113f4f9a"), looks := false }, kinds := [], alts := [], laidByText := true, laidKinds := [.data, .pinned], laidTests := true, laidLooks := .later }
def ItemGroupsUptoCardSaid : Prop := Claim7.holds Tryz.pinned (.plain (OpenSpec.upto itemGroupsSpec)) itemGroupsUptoCard

/-- THE SECOND FORM's CARD OF 'cardexlaw14.ItemNeeds'. -/
def itemNeedsUptoCard : Claim7 := { stood := { row := itemNeedsUptoRow, standIns := [], harness := (true, "37a72fae59207dbe66028ceffebfba2af1296447af640fb2733c3d2c113f4f9a"), looks := false }, kinds := [], alts := [], laidByText := true, laidKinds := [.data, .pinned], laidTests := true, laidLooks := .later }
def ItemNeedsUptoCardSaid : Prop := Claim7.holds Tryz.pinned (.plain (OpenSpec.upto itemNeedsSpec)) itemNeedsUptoCard
end Rows
end Go.Proofs.YtogjhpcjjmcjfaaGreatDoor
