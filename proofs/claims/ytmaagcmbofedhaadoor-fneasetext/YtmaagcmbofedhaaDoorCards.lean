/-
  DERIVED. GIVEN WITH THE SEED: THE CARDS: each row of YtmaagcmbofedhaaDoorRows.lean that lists a variable, with what it lists TIED to the program's text (the seventh form; the later family's looks); each row that meets fmt, with fmt's text TOLD by the authors' own Lean function (tested against real Go, not proved from fmt's source: count such statements apart). THE CARD IS WHAT COUNTS. Prove the row's statement (the work); the ties are given (YtmaagcmbofedhaaDoorTie.lean); close each card by the builder's one call (the guide's Derived/Test/ToyasCard.lean, 'card_holds'). Laid BY PROGRAM, IN A SANDBOX (cutbox-door.mjs). By AI agents, Wed Nov 11 2026. No macro, syntax, notation, axiom, sorry.
-/
import Derived.Test.YtmaagcmbofedhaaDoorRows
import GoSem.ClaimSeven
namespace Go.Proofs.YtmaagcmbofedhaaDoor
namespace Rows

/-- THE TIED CARD OF 'laws.FnEaseText'. -/
def fnEaseTextCard : Claim7 := { stood := { row := fnEaseTextRow, standIns := [], harness := (true, "a589b46f826fe976c689a7a3bd2af83f2301982a28e27e5b83ec3c8b29390e89"), looks := true }, kinds := [], alts := [], laidByText := true, laidKinds := [.data, .data, .data, .data, .sentinel, .sentinel, .data, .pinned], laidTests := true, laidLooks := .later }
def FnEaseTextCardSaid : Prop := Claim7.holds Tryd.pinned (.plain (OpenSpec.ofChange fnEaseTextSpec)) fnEaseTextCard

/-- THE TIED CARD OF 'laws.FnExactShowEase'. -/
def fnExactShowEaseCard : Claim7 := { stood := { row := fnExactShowEaseRow, standIns := [], harness := (true, "a589b46f826fe976c689a7a3bd2af83f2301982a28e27e5b83ec3c8b29390e89"), looks := true }, kinds := [], alts := [], laidByText := true, laidKinds := [.data, .data, .data, .data], laidTests := true, laidLooks := .later }
def FnExactShowEaseCardSaid : Prop := Claim7.holds Tryd.pinned (.plain (OpenSpec.ofChange fnExactShowEaseSpec)) fnExactShowEaseCard

/-- THE TIED CARD OF 'laws.FnExactReadEase'. -/
def fnExactReadEaseCard : Claim7 := { stood := { row := fnExactReadEaseRow, standIns := [], harness := (true, "a589b46f826fe976c689a7a3bd2af83f2301982a28e27e5b83ec3c8b29390e89"), looks := true }, kinds := [], alts := [], laidByText := true, laidKinds := [.data, .data, .data, .data, .sentinel, .sentinel, .data, .pinned], laidTests := true, laidLooks := .later }
def FnExactReadEaseCardSaid : Prop := Claim7.holds Tryd.pinned (.plain (OpenSpec.ofChange fnExactReadEaseSpec)) fnExactReadEaseCard

/-- THE SECOND FORM's CARD OF 'laws.FnEaseText'. -/
def fnEaseTextUptoCard : Claim7 := { stood := { row := fnEaseTextUptoRow, standIns := [], harness := (true, "a589b46f826fe976c689a7a3bd2af83f2301982a28e27e5b83ec3c8b29390e89"), looks := true }, kinds := [], alts := [], laidByText := true, laidKinds := [.data, .data, .data, .data, .sentinel, .sentinel, .data, .pinned], laidTests := true, laidLooks := .later }
def FnEaseTextUptoCardSaid : Prop := Claim7.holds Tryd.pinned (.plain (OpenSpec.upto fnEaseTextSpec)) fnEaseTextUptoCard

/-- THE SECOND FORM's CARD OF 'laws.FnExactShowEase'. -/
def fnExactShowEaseUptoCard : Claim7 := { stood := { row := fnExactShowEaseUptoRow, standIns := [], harness := (true, "a589b46f826fe976c689a7a3bd2af83f2301982a28e27e5b83ec3c8b29390e89"), looks := true }, kinds := [], alts := [], laidByText := true, laidKinds := [.data, .data, .data, .data], laidTests := true, laidLooks := .later }
def FnExactShowEaseUptoCardSaid : Prop := Claim7.holds Tryd.pinned (.plain (OpenSpec.upto fnExactShowEaseSpec)) fnExactShowEaseUptoCard

/-- THE SECOND FORM's CARD OF 'laws.FnExactReadEase'. -/
def fnExactReadEaseUptoCard : Claim7 := { stood := { row := fnExactReadEaseUptoRow, standIns := [], harness := (true, "a589b46f826fe976c689a7a3bd2af83f2301982a28e27e5b83ec3c8b29390e89"), looks := true }, kinds := [], alts := [], laidByText := true, laidKinds := [.data, .data, .data, .data, .sentinel, .sentinel, .data, .pinned], laidTests := true, laidLooks := .later }
def FnExactReadEaseUptoCardSaid : Prop := Claim7.holds Tryd.pinned (.plain (OpenSpec.upto fnExactReadEaseSpec)) fnExactReadEaseUptoCard
end Rows
end Go.Proofs.YtmaagcmbofedhaaDoor
