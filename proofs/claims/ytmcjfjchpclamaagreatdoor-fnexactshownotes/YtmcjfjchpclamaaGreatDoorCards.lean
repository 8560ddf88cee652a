/-
  DERIVED. GIVEN WITH THE SEED: THE CARDS: each row of YtmcjfjchpclamaaGreatDoorRows.lean that lists a variable, with what it lists TIED to the program's text (the seventh form; the later family's looks); each row that meets fmt, with fmt's text TOLD by the authors' own Lean function (tested against real Go, not proved from fmt's source: count such statements apart). THE CARD IS WHAT COUNTS. Prove the row's statement (the work); the ties are given (YtmcjfjchpclamaaGreatDoorTie.lean); close each card by the builder's one call (the guide's Derived/Test/ToyasCard.lean, 'card_holds'). Laid BY PROGRAM, IN A SANDBOX (cutbox-door.mjs). By AI agents, Wed Nov 11 2026. No macro, syntax, notation, axiom, sorry.
-/
import Derived.Test.YtmcjfjchpclamaaGreatDoorRows
import GoSem.ClaimSeven
namespace Go.Proofs.YtmcjfjchpclamaaGreatDoor
namespace Rows

/-- THE TIED CARD OF 'laws.FnNotes'. -/
def fnNotesCard : Claim7 := { stood := { row := fnNotesRow, standIns := [], harness := (true, "a1cf6983f5fe4ee1b4e65e78cdbeb28e6eebf6f93487dbc5debf1b50fae14a9d"), looks := true }, kinds := [], alts := [], laidByText := true, laidKinds := [.data, .data, .data, .sentinel, .sentinel], laidTests := true, laidLooks := .later }
def FnNotesCardSaid : Prop := Claim7.holds Tryz.pinned (.plain (OpenSpec.ofChange fnNotesSpec)) fnNotesCard

/-- THE TIED CARD OF 'laws.FnNoHarm'. -/
def fnNoHarmCard : Claim7 := { stood := { row := fnNoHarmRow, standIns := [], harness := (true, "a1cf6983f5fe4ee1b4e65e78cdbeb28e6eebf6f93487dbc5debf1b50fae14a9d"), looks := true }, kinds := [], alts := [], laidByText := true, laidKinds := [.data, .data, .data, .sentinel, .sentinel], laidTests := true, laidLooks := .later }
def FnNoHarmCardSaid : Prop := Claim7.holds Tryz.pinned (.plain (OpenSpec.ofChange fnNoHarmSpec)) fnNoHarmCard

/-- THE TIED CARD OF 'laws.FnExactShowNotes'. -/
def fnExactShowNotesCard : Claim7 := { stood := { row := fnExactShowNotesRow, standIns := [], harness := (true, "a1cf6983f5fe4ee1b4e65e78cdbeb28e6eebf6f93487dbc5debf1b50fae14a9d"), looks := true }, kinds := [], alts := [], laidByText := true, laidKinds := [.data, .data, .data, .sentinel, .sentinel], laidTests := true, laidLooks := .later }
def FnExactShowNotesCardSaid : Prop := Claim7.holds Tryz.pinned (.plain (OpenSpec.ofChange fnExactShowNotesSpec)) fnExactShowNotesCard

/-- THE TIED CARD OF 'laws.FnExactReadNotes'. -/
def fnExactReadNotesCard : Claim7 := { stood := { row := fnExactReadNotesRow, standIns := [], harness := (true, "a1cf6983f5fe4ee1b4e65e78cdbeb28e6eebf6f93487dbc5debf1b50fae14a9d"), looks := true }, kinds := [], alts := [], laidByText := true, laidKinds := [.data, .data, .data, .sentinel, .sentinel], laidTests := true, laidLooks := .later }
def FnExactReadNotesCardSaid : Prop := Claim7.holds Tryz.pinned (.plain (OpenSpec.ofChange fnExactReadNotesSpec)) fnExactReadNotesCard

/-- THE SECOND FORM's CARD OF 'laws.FnNotes'. -/
def fnNotesUptoCard : Claim7 := { stood := { row := fnNotesUptoRow, standIns := [], harness := (true, "a1cf6983f5fe4ee1b4e65e78cdbeb28e6eebf6f93487dbc5debf1b50fae14a9d"), looks := true }, kinds := [], alts := [], laidByText := true, laidKinds := [.data, .data, .data, .sentinel, .sentinel], laidTests := true, laidLooks := .later }
def FnNotesUptoCardSaid : Prop := Claim7.holds Tryz.pinned (.plain (OpenSpec.upto fnNotesSpec)) fnNotesUptoCard

/-- THE SECOND FORM's CARD OF 'laws.FnNoHarm'. -/
def fnNoHarmUptoCard : Claim7 := { stood := { row := fnNoHarmUptoRow, standIns := [], harness := (true, "a1cf6983f5fe4ee1b4e65e78cdbeb28e6eebf6f93487dbc5debf1b50fae14a9d"), looks := true }, kinds := [], alts := [], laidByText := true, laidKinds := [.data, .data, .data, .sentinel, .sentinel], laidTests := true, laidLooks := .later }
def FnNoHarmUptoCardSaid : Prop := Claim7.holds Tryz.pinned (.plain (OpenSpec.upto fnNoHarmSpec)) fnNoHarmUptoCard

/-- THE SECOND FORM's CARD OF 'laws.FnExactShowNotes'. -/
def fnExactShowNotesUptoCard : Claim7 := { stood := { row := fnExactShowNotesUptoRow, standIns := [], harness := (true, "a1cf6983f5fe4ee1b4e65e78cdbeb28e6eebf6f93487dbc5debf1b50fae14a9d"), looks := true }, kinds := [], alts := [], laidByText := true, laidKinds := [.data, .data, .data, .sentinel, .sentinel], laidTests := true, laidLooks := .later }
def FnExactShowNotesUptoCardSaid : Prop := Claim7.holds Tryz.pinned (.plain (OpenSpec.upto fnExactShowNotesSpec)) fnExactShowNotesUptoCard

/-- THE SECOND FORM's CARD OF 'laws.FnExactReadNotes'. -/
def fnExactReadNotesUptoCard : Claim7 := { stood := { row := fnExactReadNotesUptoRow, standIns := [], harness := (true, "a1cf6983f5fe4ee1b4e65e78cdbeb28e6eebf6f93487dbc5debf1b50fae14a9d"), looks := true }, kinds := [], alts := [], laidByText := true, laidKinds := [.data, .data, .data, .sentinel, .sentinel], laidTests := true, laidLooks := .later }
def FnExactReadNotesUptoCardSaid : Prop := Claim7.holds Tryz.pinned (.plain (OpenSpec.upto fnExactReadNotesSpec)) fnExactReadNotesUptoCard
end Rows
end Go.Proofs.YtmcjfjchpclamaaGreatDoor
