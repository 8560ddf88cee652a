/-
  DERIVED. GIVEN WITH THE SEED: THE CARDS: each row of YtliihnkonakacaaGreatDoorRows.lean that lists a variable, with what it lists TIED to the program's text (the seventh form; the later family's looks); each row that meets fmt, with fmt's text TOLD by the authors' own Lean function (tested against real Go, not proved from fmt's source: count such statements apart). THE CARD IS WHAT COUNTS. Prove the row's statement (the work); the ties are given (YtliihnkonakacaaGreatDoorTie.lean); close each card by the builder's one call (the guide's Derived/Test/ToyasCard.lean, 'card_holds'). Laid BY PROGRAM, IN A SANDBOX (cutbox-door.mjs). By AI agents, Wed Nov 11 2026. No macro, syntax, notation, axiom, sorry.
-/
import Derived.Test.YtliihnkonakacaaGreatDoorRows
import GoSem.ClaimSeven
namespace Go.Proofs.YtliihnkonakacaaGreatDoor
namespace Rows

/-- THE TIED CARD OF 'laws.FnPicks'. -/
def fnPicksCard : Claim7 := { stood := { row := fnPicksRow, standIns := [], harness := (true, "18d167c2252c88c970b211128c661b90930c25d81b2826950189ef9d087f903c"), looks := true }, kinds := [], alts := [], laidByText := true, laidKinds := [.data, .data, .data, .sentinel, .sentinel], laidTests := true, laidLooks := .later }
def FnPicksCardSaid : Prop := Claim7.holds Tryz.pinned (.plain (OpenSpec.ofChange fnPicksSpec)) fnPicksCard

/-- THE TIED CARD OF 'laws.FnWeights'. -/
def fnWeightsCard : Claim7 := { stood := { row := fnWeightsRow, standIns := [], harness := (true, "18d167c2252c88c970b211128c661b90930c25d81b2826950189ef9d087f903c"), looks := true }, kinds := [], alts := [], laidByText := true, laidKinds := [.data, .data, .data, .sentinel, .sentinel], laidTests := true, laidLooks := .later }
def FnWeightsCardSaid : Prop := Claim7.holds Tryz.pinned (.plain (OpenSpec.ofChange fnWeightsSpec)) fnWeightsCard

/-- THE TIED CARD OF 'laws.FnExactPickOk'. -/
def fnExactPickOkCard : Claim7 := { stood := { row := fnExactPickOkRow, standIns := [], harness := (true, "18d167c2252c88c970b211128c661b90930c25d81b2826950189ef9d087f903c"), looks := true }, kinds := [], alts := [], laidByText := true, laidKinds := [.data, .data, .data, .sentinel, .sentinel], laidTests := true, laidLooks := .later }
def FnExactPickOkCardSaid : Prop := Claim7.holds Tryz.pinned (.plain (OpenSpec.ofChange fnExactPickOkSpec)) fnExactPickOkCard

/-- THE TIED CARD OF 'laws.FnExactShowPick'. -/
def fnExactShowPickCard : Claim7 := { stood := { row := fnExactShowPickRow, standIns := [], harness := (true, "18d167c2252c88c970b211128c661b90930c25d81b2826950189ef9d087f903c"), looks := true }, kinds := [], alts := [], laidByText := true, laidKinds := [.data, .data, .data, .sentinel, .sentinel], laidTests := true, laidLooks := .later }
def FnExactShowPickCardSaid : Prop := Claim7.holds Tryz.pinned (.plain (OpenSpec.ofChange fnExactShowPickSpec)) fnExactShowPickCard

/-- THE TIED CARD OF 'laws.FnExactReadPick'. -/
def fnExactReadPickCard : Claim7 := { stood := { row := fnExactReadPickRow, standIns := [], harness := (true, "18d167c2252c88c970b211128c661b90930c25d81b2826950189ef9d087f903c"), looks := true }, kinds := [], alts := [], laidByText := true, laidKinds := [.data, .data, .data, .sentinel, .sentinel], laidTests := true, laidLooks := .later }
def FnExactReadPickCardSaid : Prop := Claim7.holds Tryz.pinned (.plain (OpenSpec.ofChange fnExactReadPickSpec)) fnExactReadPickCard

/-- THE TIED CARD OF 'laws.FnExactWeightOf'. -/
def fnExactWeightOfCard : Claim7 := { stood := { row := fnExactWeightOfRow, standIns := [], harness := (true, "18d167c2252c88c970b211128c661b90930c25d81b2826950189ef9d087f903c"), looks := true }, kinds := [], alts := [], laidByText := true, laidKinds := [.data, .data, .data, .sentinel, .sentinel], laidTests := true, laidLooks := .later }
def FnExactWeightOfCardSaid : Prop := Claim7.holds Tryz.pinned (.plain (OpenSpec.ofChange fnExactWeightOfSpec)) fnExactWeightOfCard

/-- THE TIED CARD OF 'laws.FnNotes'. -/
def fnNotesCard : Claim7 := { stood := { row := fnNotesRow, standIns := [], harness := (true, "18d167c2252c88c970b211128c661b90930c25d81b2826950189ef9d087f903c"), looks := true }, kinds := [], alts := [], laidByText := true, laidKinds := [.data, .data, .data, .sentinel, .sentinel], laidTests := true, laidLooks := .later }
def FnNotesCardSaid : Prop := Claim7.holds Tryz.pinned (.plain (OpenSpec.ofChange fnNotesSpec)) fnNotesCard

/-- THE TIED CARD OF 'laws.FnNoHarm'. -/
def fnNoHarmCard : Claim7 := { stood := { row := fnNoHarmRow, standIns := [], harness := (true, "18d167c2252c88c970b211128c661b90930c25d81b2826950189ef9d087f903c"), looks := true }, kinds := [], alts := [], laidByText := true, laidKinds := [.data, .data, .data, .sentinel, .sentinel], laidTests := true, laidLooks := .later }
def FnNoHarmCardSaid : Prop := Claim7.holds Tryz.pinned (.plain (OpenSpec.ofChange fnNoHarmSpec)) fnNoHarmCard

/-- THE SECOND FORM's CARD OF 'laws.FnPicks'. -/
def fnPicksUptoCard : Claim7 := { stood := { row := fnPicksUptoRow, standIns := [], harness := (true, "18d167c2252c88c970b211128c661b90930c25d81b2826950189ef9d087f903c"), looks := true }, kinds := [], alts := [], laidByText := true, laidKinds := [.data, .data, .data, .sentinel, .sentinel], laidTests := true, laidLooks := .later }
def FnPicksUptoCardSaid : Prop := Claim7.holds Tryz.pinned (.plain (OpenSpec.upto fnPicksSpec)) fnPicksUptoCard

/-- THE SECOND FORM's CARD OF 'laws.FnWeights'. -/
def fnWeightsUptoCard : Claim7 := { stood := { row := fnWeightsUptoRow, standIns := [], harness := (true, "18d167c2252c88c970b211128c661b90930c25d81b2826950189ef9d087f903c"), looks := true }, kinds := [], alts := [], laidByText := true, laidKinds := [.data, .data, .data, .sentinel, .sentinel], laidTests := true, laidLooks := .later }
def FnWeightsUptoCardSaid : Prop := Claim7.holds Tryz.pinned (.plain (OpenSpec.upto fnWeightsSpec)) fnWeightsUptoCard

/-- THE SECOND FORM's CARD OF 'laws.FnExactPickOk'. -/
def fnExactPickOkUptoCard : Claim7 := { stood := { row := fnExactPickOkUptoRow, standIns := [], harness := (true, "18d167c2252c88c970b211128c661b90930c25d81b2826950189ef9d087f903c"), looks := true }, kinds := [], alts := [], laidByText := true, laidKinds := [.data, .data, .data, .sentinel, .sentinel], laidTests := true, laidLooks := .later }
def FnExactPickOkUptoCardSaid : Prop := Claim7.holds Tryz.pinned (.plain (OpenSpec.upto fnExactPickOkSpec)) fnExactPickOkUptoCard

/-- THE SECOND FORM's CARD OF 'laws.FnExactShowPick'. -/
def fnExactShowPickUptoCard : Claim7 := { stood := { row := fnExactShowPickUptoRow, standIns := [], harness := (true, "18d167c2252c88c970b211128c661b90930c25d81b2826950189ef9d087f903c"), looks := true }, kinds := [], alts := [], laidByText := true, laidKinds := [.data, .data, .data, .sentinel, .sentinel], laidTests := true, laidLooks := .later }
def FnExactShowPickUptoCardSaid : Prop := Claim7.holds Tryz.pinned (.plain (OpenSpec.upto fnExactShowPickSpec)) fnExactShowPickUptoCard

/-- THE SECOND FORM's CARD OF 'laws.FnExactReadPick'. -/
def fnExactReadPickUptoCard : Claim7 := { stood := { row := fnExactReadPickUptoRow, standIns := [], harness := (true, "18d167c2252c88c970b211128c661b90930c25d81b2826950189ef9d087f903c"), looks := true }, kinds := [], alts := [], laidByText := true, laidKinds := [.data, .data, .data, .sentinel, .sentinel], laidTests := true, laidLooks := .later }
def FnExactReadPickUptoCardSaid : Prop := Claim7.holds Tryz.pinned (.plain (OpenSpec.upto fnExactReadPickSpec)) fnExactReadPickUptoCard

/-- THE SECOND FORM's CARD OF 'laws.FnExactWeightOf'. -/
def fnExactWeightOfUptoCard : Claim7 := { stood := { row := fnExactWeightOfUptoRow, standIns := [], harness := (true, "18d167c2252c88c970b211128c661b90930c25d81b2826950189ef9d087f903c"), looks := true }, kinds := [], alts := [], laidByText := true, laidKinds := [.data, .data, .data, .sentinel, .sentinel], laidTests := true, laidLooks := .later }
def FnExactWeightOfUptoCardSaid : Prop := Claim7.holds Tryz.pinned (.plain (OpenSpec.upto fnExactWeightOfSpec)) fnExactWeightOfUptoCard

/-- THE SECOND FORM's CARD OF 'laws.FnNotes'. -/
def fnNotesUptoCard : Claim7 := { stood := { row := fnNotesUptoRow, standIns := [], harness := (true, "18d167c2252c88c970b211128c661b90930c25d81b2826950189ef9d087f903c"), looks := true }, kinds := [], alts := [], laidByText := true, laidKinds := [.data, .data, .data, .sentinel, .sentinel], laidTests := true, laidLooks := .later }
def FnNotesUptoCardSaid : Prop := Claim7.holds Tryz.pinned (.plain (OpenSpec.upto fnNotesSpec)) fnNotesUptoCard

/-- THE SECOND FORM's CARD OF 'laws.FnNoHarm'. -/
def fnNoHarmUptoCard : Claim7 := { stood := { row := fnNoHarmUptoRow, standIns := [], harness := (true, "18d167c2252c88c970b211128c661b90930c25d81b2826950189ef9d087f903c"), looks := true }, kinds := [], alts := [], laidByText := true, laidKinds := [.data, .data, .data, .sentinel, .sentinel], laidTests := true, laidLooks := .later }
def FnNoHarmUptoCardSaid : Prop := Claim7.holds Tryz.pinned (.plain (OpenSpec.upto fnNoHarmSpec)) fnNoHarmUptoCard
end Rows
end Go.Proofs.YtliihnkonakacaaGreatDoor
