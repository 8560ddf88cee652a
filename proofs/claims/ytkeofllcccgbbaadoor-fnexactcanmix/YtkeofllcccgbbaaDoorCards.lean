/-
  DERIVED. GIVEN WITH THE SEED: THE CARDS: each row of YtkeofllcccgbbaaDoorRows.lean that lists a variable, with what it lists TIED to the program's text (the seventh form; the later family's looks); each row that meets fmt, with fmt's text TOLD by the authors' own Lean function (tested against real Go, not proved from fmt's source: count such statements apart). THE CARD IS WHAT COUNTS. Prove the row's statement (the work); the ties are given (YtkeofllcccgbbaaDoorTie.lean); close each card by the builder's one call (the guide's Derived/Test/ToyasCard.lean, 'card_holds'). Laid BY PROGRAM, IN A SANDBOX (cutbox-door.mjs). By AI agents, Wed Nov 11 2026. No macro, syntax, notation, axiom, sorry.
-/
import Derived.Test.YtkeofllcccgbbaaDoorRows
import GoSem.ClaimSeven
namespace Go.Proofs.YtkeofllcccgbbaaDoor
namespace Rows

/-- THE TIED CARD OF 'laws.FnExactCanMix'. -/
def fnExactCanMixCard : Claim7 := { stood := { row := fnExactCanMixRow, standIns := [], harness := (true, "de999f157cd01661853acd82f89835f7e91991c2b55d861749f4d5fae0be524a"), looks := true }, kinds := [], alts := [], laidByText := true, laidKinds := [.data, .data, .data, .sentinel, .sentinel], laidTests := true, laidLooks := .later }
def FnExactCanMixCardSaid : Prop := Claim7.holds Tryd.pinned (.plain (OpenSpec.ofChange fnExactCanMixSpec)) fnExactCanMixCard

/-- THE TIED CARD OF 'laws.FnExactApart'. -/
def fnExactApartCard : Claim7 := { stood := { row := fnExactApartRow, standIns := [], harness := (true, "de999f157cd01661853acd82f89835f7e91991c2b55d861749f4d5fae0be524a"), looks := true }, kinds := [], alts := [], laidByText := true, laidKinds := [.data, .data, .data, .sentinel, .sentinel], laidTests := true, laidLooks := .later }
def FnExactApartCardSaid : Prop := Claim7.holds Tryd.pinned (.plain (OpenSpec.ofChange fnExactApartSpec)) fnExactApartCard

/-- THE SECOND FORM's CARD OF 'laws.FnExactCanMix'. -/
def fnExactCanMixUptoCard : Claim7 := { stood := { row := fnExactCanMixUptoRow, standIns := [], harness := (true, "de999f157cd01661853acd82f89835f7e91991c2b55d861749f4d5fae0be524a"), looks := true }, kinds := [], alts := [], laidByText := true, laidKinds := [.data, .data, .data, .sentinel, .sentinel], laidTests := true, laidLooks := .later }
def FnExactCanMixUptoCardSaid : Prop := Claim7.holds Tryd.pinned (.plain (OpenSpec.upto fnExactCanMixSpec)) fnExactCanMixUptoCard

/-- THE SECOND FORM's CARD OF 'laws.FnExactApart'. -/
def fnExactApartUptoCard : Claim7 := { stood := { row := fnExactApartUptoRow, standIns := [], harness := (true, "de999f157cd01661853acd82f89835f7e91991c2b55d861749f4d5fae0be524a"), looks := true }, kinds := [], alts := [], laidByText := true, laidKinds := [.data, .data, .data, .sentinel, .sentinel], laidTests := true, laidLooks := .later }
def FnExactApartUptoCardSaid : Prop := Claim7.holds Tryd.pinned (.plain (OpenSpec.upto fnExactApartSpec)) fnExactApartUptoCard
end Rows
end Go.Proofs.YtkeofllcccgbbaaDoor
