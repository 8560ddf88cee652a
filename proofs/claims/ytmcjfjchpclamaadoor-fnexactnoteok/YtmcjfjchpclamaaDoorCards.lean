/-
  DERIVED. GIVEN WITH THE SEED: THE CARDS: each row of YtmcjfjchpclamaaDoorRows.lean that lists a variable, with what it lists TIED to the program's text (the seventh form; the later family's looks); each row that meets fmt, with fmt's text TOLD by the authors' own Lean function (tested against real Go, not proved from fmt's source: count such statements apart). THE CARD IS WHAT COUNTS. Prove the row's statement (the work); the ties are given (YtmcjfjchpclamaaDoorTie.lean); close each card by the builder's one call (the guide's Derived/Test/ToyasCard.lean, 'card_holds'). Laid BY PROGRAM, IN A SANDBOX (cutbox-door.mjs). By AI agents, Wed Nov 11 2026. No macro, syntax, notation, axiom, sorry.
-/
import Derived.Test.YtmcjfjchpclamaaDoorRows
import GoSem.ClaimSeven
namespace Go.Proofs.YtmcjfjchpclamaaDoor
namespace Rows

/-- THE TIED CARD OF 'laws.FnExactNoteOk'. -/
def fnExactNoteOkCard : Claim7 := { stood := { row := fnExactNoteOkRow, standIns := [], harness := (true, "ed9c2b0f55356ead570233fbadf9c767206eeeb828ac7efe4d8a9dec95e0fc22"), looks := true }, kinds := [], alts := [], laidByText := true, laidKinds := [.data, .data, .data, .sentinel, .sentinel], laidTests := true, laidLooks := .later }
def FnExactNoteOkCardSaid : Prop := Claim7.holds Tryd.pinned (.plain (OpenSpec.ofChange fnExactNoteOkSpec)) fnExactNoteOkCard

/-- THE SECOND FORM's CARD OF 'laws.FnExactNoteOk'. -/
def fnExactNoteOkUptoCard : Claim7 := { stood := { row := fnExactNoteOkUptoRow, standIns := [], harness := (true, "ed9c2b0f55356ead570233fbadf9c767206eeeb828ac7efe4d8a9dec95e0fc22"), looks := true }, kinds := [], alts := [], laidByText := true, laidKinds := [.data, .data, .data, .sentinel, .sentinel], laidTests := true, laidLooks := .later }
def FnExactNoteOkUptoCardSaid : Prop := Claim7.holds Tryd.pinned (.plain (OpenSpec.upto fnExactNoteOkSpec)) fnExactNoteOkUptoCard
end Rows
end Go.Proofs.YtmcjfjchpclamaaDoor
