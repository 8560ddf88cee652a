/-
  No cell of these rows narrows 'for every input' (looked for: loops, veiled, ifaces, maps, wideKeys, modest, calm, conditions, laid).
  DERIVED. THE GIVEN ROWS OF THIS SEAT. 7 by the template 'for every input the law returns true; each argument reads behind the call as it read before'; 0 by the template 'total and deterministic' (their statements: YtcapbijccecddaaTotals.lean).
  GIVEN WITH THE SEED: the statements are not yours to turn. If you find one false, say at which input.
  Laid BY PROGRAM, IN A SANDBOX (cutbox-rows.mjs): the forced cells as the released guide's own fill.sh prints them over the translation a3f2101481542f73… (all of the seat's roots in one cut). By AI agents, Wed Nov 11 2026. No macro, syntax, notation, axiom, sorry.
-/
import Derived.Test.YtcapbijccecddaaChecked
import GoSem.Claim
import GoSem.ClaimJoined
import GoSem.ClaimMapViews
import Derived.JoinedTies
import Derived.KernelRfl
namespace Go.Proofs.Ytcapbijccecddaa
/- THE CELL 'sum', in the pinned program and in every row, IS THE sha256 OF THE DUMP (.gsa) THAT YtcapbijccecddaaProg.lean LOADS. Nothing in Lean hashes anything: it is a label: what it is worth is what the hold of that sum in a sandbox is worth. -/
noncomputable def Try.pinned : Pinned := { name := "ytcapbijccecddaa", sum := "a3f2101481542f73e1356a357210c60bcd71b4b75fbb99e7d481d6d0b92fc844", checked := Try.checked }
namespace Rows
def none {H : Type} : Left H := { results := [], args := [] }

/-- 'laws.FnCurves': WHATEVER THE INPUT: true; the input reads as it did. -/
def fnCurvesSpec : ChangeSpec := { name := "fnCurves", fn := fun _ => fun
  | [d] => { results := [.lit (.bool true)], args := [d] }
  | _ => none }
def fnCurvesRow : OpenClaim := { program := "ytcapbijccecddaa", sum := "a3f2101481542f73e1356a357210c60bcd71b4b75fbb99e7d481d6d0b92fc844", func := "loop.example/g00521/laws.FnCurves", spec := "fnCurves", unfollowed := true, recurses := true, apart := false }
def FnCurvesSaid : Prop := fnCurvesRow.holds Try.pinned (OpenSpec.ofChange fnCurvesSpec)

/-- ITS FALSE NEIGHBOUR: 'it returns false'. Refute it at one input. -/
def fnCurvesWrong : ChangeSpec := { name := "fnCurves", fn := fun _ => fun
  | [d] => { results := [.lit (.bool false)], args := [d] }
  | _ => none }
def FnCurvesWrongFalsely : Prop := fnCurvesRow.holds Try.pinned (OpenSpec.ofChange fnCurvesWrong)

/-- 'laws.FnOnAndOn': WHATEVER THE INPUT: true; the input reads as it did. -/
def fnOnAndOnSpec : ChangeSpec := { name := "fnOnAndOn", fn := fun _ => fun
  | [d] => { results := [.lit (.bool true)], args := [d] }
  | _ => none }
def fnOnAndOnRow : OpenClaim := { program := "ytcapbijccecddaa", sum := "a3f2101481542f73e1356a357210c60bcd71b4b75fbb99e7d481d6d0b92fc844", func := "loop.example/g00521/laws.FnOnAndOn", spec := "fnOnAndOn", unfollowed := true, recurses := true, apart := false }
def FnOnAndOnSaid : Prop := fnOnAndOnRow.holds Try.pinned (OpenSpec.ofChange fnOnAndOnSpec)

/-- ITS FALSE NEIGHBOUR: 'it returns false'. Refute it at one input. -/
def fnOnAndOnWrong : ChangeSpec := { name := "fnOnAndOn", fn := fun _ => fun
  | [d] => { results := [.lit (.bool false)], args := [d] }
  | _ => none }
def FnOnAndOnWrongFalsely : Prop := fnOnAndOnRow.holds Try.pinned (OpenSpec.ofChange fnOnAndOnWrong)

/-- 'laws.FnExactCurveOk': WHATEVER THE INPUT: true; the input reads as it did. -/
def fnExactCurveOkSpec : ChangeSpec := { name := "fnExactCurveOk", fn := fun _ => fun
  | [d] => { results := [.lit (.bool true)], args := [d] }
  | _ => none }
def fnExactCurveOkRow : OpenClaim := { program := "ytcapbijccecddaa", sum := "a3f2101481542f73e1356a357210c60bcd71b4b75fbb99e7d481d6d0b92fc844", func := "loop.example/g00521/laws.FnExactCurveOk", spec := "fnExactCurveOk", apart := false }
def FnExactCurveOkSaid : Prop := fnExactCurveOkRow.holds Try.pinned (OpenSpec.ofChange fnExactCurveOkSpec)

/-- ITS FALSE NEIGHBOUR: 'it returns false'. Refute it at one input. -/
def fnExactCurveOkWrong : ChangeSpec := { name := "fnExactCurveOk", fn := fun _ => fun
  | [d] => { results := [.lit (.bool false)], args := [d] }
  | _ => none }
def FnExactCurveOkWrongFalsely : Prop := fnExactCurveOkRow.holds Try.pinned (OpenSpec.ofChange fnExactCurveOkWrong)

/-- 'laws.FnExactAlongX': WHATEVER THE INPUT: true; the input reads as it did. -/
def fnExactAlongXSpec : ChangeSpec := { name := "fnExactAlongX", fn := fun _ => fun
  | [d1, d2] => { results := [.lit (.bool true)], args := [d1, d2] }
  | _ => none }
def fnExactAlongXRow : OpenClaim := { program := "ytcapbijccecddaa", sum := "a3f2101481542f73e1356a357210c60bcd71b4b75fbb99e7d481d6d0b92fc844", func := "loop.example/g00521/laws.FnExactAlongX", spec := "fnExactAlongX", apart := false }
def FnExactAlongXSaid : Prop := fnExactAlongXRow.holds Try.pinned (OpenSpec.ofChange fnExactAlongXSpec)

/-- ITS FALSE NEIGHBOUR: 'it returns false'. Refute it at one input. -/
def fnExactAlongXWrong : ChangeSpec := { name := "fnExactAlongX", fn := fun _ => fun
  | [d1, d2] => { results := [.lit (.bool false)], args := [d1, d2] }
  | _ => none }
def FnExactAlongXWrongFalsely : Prop := fnExactAlongXRow.holds Try.pinned (OpenSpec.ofChange fnExactAlongXWrong)

/-- 'laws.FnExactAlongY': WHATEVER THE INPUT: true; the input reads as it did. -/
def fnExactAlongYSpec : ChangeSpec := { name := "fnExactAlongY", fn := fun _ => fun
  | [d1, d2] => { results := [.lit (.bool true)], args := [d1, d2] }
  | _ => none }
def fnExactAlongYRow : OpenClaim := { program := "ytcapbijccecddaa", sum := "a3f2101481542f73e1356a357210c60bcd71b4b75fbb99e7d481d6d0b92fc844", func := "loop.example/g00521/laws.FnExactAlongY", spec := "fnExactAlongY", apart := false }
def FnExactAlongYSaid : Prop := fnExactAlongYRow.holds Try.pinned (OpenSpec.ofChange fnExactAlongYSpec)

/-- ITS FALSE NEIGHBOUR: 'it returns false'. Refute it at one input. -/
def fnExactAlongYWrong : ChangeSpec := { name := "fnExactAlongY", fn := fun _ => fun
  | [d1, d2] => { results := [.lit (.bool false)], args := [d1, d2] }
  | _ => none }
def FnExactAlongYWrongFalsely : Prop := fnExactAlongYRow.holds Try.pinned (OpenSpec.ofChange fnExactAlongYWrong)

/-- 'laws.FnExactStopOf': WHATEVER THE INPUT: true; the input reads as it did. -/
def fnExactStopOfSpec : ChangeSpec := { name := "fnExactStopOf", fn := fun _ => fun
  | [d1, d2] => { results := [.lit (.bool true)], args := [d1, d2] }
  | _ => none }
def fnExactStopOfRow : OpenClaim := { program := "ytcapbijccecddaa", sum := "a3f2101481542f73e1356a357210c60bcd71b4b75fbb99e7d481d6d0b92fc844", func := "loop.example/g00521/laws.FnExactStopOf", spec := "fnExactStopOf", unfollowed := true, recurses := true, apart := false }
def FnExactStopOfSaid : Prop := fnExactStopOfRow.holds Try.pinned (OpenSpec.ofChange fnExactStopOfSpec)

/-- ITS FALSE NEIGHBOUR: 'it returns false'. Refute it at one input. -/
def fnExactStopOfWrong : ChangeSpec := { name := "fnExactStopOf", fn := fun _ => fun
  | [d1, d2] => { results := [.lit (.bool false)], args := [d1, d2] }
  | _ => none }
def FnExactStopOfWrongFalsely : Prop := fnExactStopOfRow.holds Try.pinned (OpenSpec.ofChange fnExactStopOfWrong)

/-- 'laws.FnExactCurveAt': WHATEVER THE INPUT: true; the input reads as it did. -/
def fnExactCurveAtSpec : ChangeSpec := { name := "fnExactCurveAt", fn := fun _ => fun
  | [d1, d2] => { results := [.lit (.bool true)], args := [d1, d2] }
  | _ => none }
def fnExactCurveAtRow : OpenClaim := { program := "ytcapbijccecddaa", sum := "a3f2101481542f73e1356a357210c60bcd71b4b75fbb99e7d481d6d0b92fc844", func := "loop.example/g00521/laws.FnExactCurveAt", spec := "fnExactCurveAt", unfollowed := true, recurses := true, apart := false }
def FnExactCurveAtSaid : Prop := fnExactCurveAtRow.holds Try.pinned (OpenSpec.ofChange fnExactCurveAtSpec)

/-- ITS FALSE NEIGHBOUR: 'it returns false'. Refute it at one input. -/
def fnExactCurveAtWrong : ChangeSpec := { name := "fnExactCurveAt", fn := fun _ => fun
  | [d1, d2] => { results := [.lit (.bool false)], args := [d1, d2] }
  | _ => none }
def FnExactCurveAtWrongFalsely : Prop := fnExactCurveAtRow.holds Try.pinned (OpenSpec.ofChange fnExactCurveAtWrong)

/- THE SECOND FORM. 'bulk': how many values and letters a reading holds, each counted each time it is reached (what is shared counts as often as it is met; a slice's spare places count too). A statement '..UptoSaid' is the law's where the arguments, and the package variables that the reading takes, are together of bulk at most 1048576: NARROWER than '..Said'. Prove '..Said' where nothing that the law and all that it calls make is longer than what came in: it says more and counts as full. Else prove '..UptoSaid'. A law counts once. -/
mutual
def uptoBulk {H : Type} : DataW H → Nat
  | .lit (.string bytes) => bytes.length + 1
  | .lit _ => 1
  | .nil => 1
  | .ptr d => uptoBulk d + 1
  | .slice elems spare => uptoBulkAll elems + uptoBulkAll spare + 1
  | .agg parts => uptoBulkAll parts + 1
  | .iface _ d => uptoBulk d + 1
  | .map entries => uptoBulkEntries entries + 1
  | .held _ => 1
def uptoBulkAll {H : Type} : List (DataW H) → Nat
  | [] => 0
  | d :: r => uptoBulk d + uptoBulkAll r
def uptoBulkEntries {H : Type} : List (Lit × DataW H) → Nat
  | [] => 0
  | x :: r => uptoBulkEntry x + uptoBulkEntries r
def uptoBulkEntry {H : Type} : Lit × DataW H → Nat
  | (.string bytes, d) => bytes.length + uptoBulk d + 1
  | (_, d) => uptoBulk d + 1
 end
def uptoSmall : (H : Type) → List (DataW H) → Bool := fun _ ds => decide (uptoBulkAll ds ≤ 1048576)
def OpenSpec.upto (s : _root_.Go.ChangeSpec) : _root_.Go.OpenSpec := { _root_.Go.OpenSpec.ofChange s with cond := some uptoSmall }

/-- 'laws.FnCurves', WHERE WHAT IT READS IS OF BULK AT MOST 1048576: true; the input reads as it did. -/
def fnCurvesUptoRow : OpenClaim := { program := "ytcapbijccecddaa", sum := "a3f2101481542f73e1356a357210c60bcd71b4b75fbb99e7d481d6d0b92fc844", func := "loop.example/g00521/laws.FnCurves", spec := "fnCurves", unfollowed := true, recurses := true, apart := false, narrowed := true }
def FnCurvesUptoSaid : Prop := fnCurvesUptoRow.holds Try.pinned (OpenSpec.upto fnCurvesSpec)

/-- 'laws.FnOnAndOn', WHERE WHAT IT READS IS OF BULK AT MOST 1048576: true; the input reads as it did. -/
def fnOnAndOnUptoRow : OpenClaim := { program := "ytcapbijccecddaa", sum := "a3f2101481542f73e1356a357210c60bcd71b4b75fbb99e7d481d6d0b92fc844", func := "loop.example/g00521/laws.FnOnAndOn", spec := "fnOnAndOn", unfollowed := true, recurses := true, apart := false, narrowed := true }
def FnOnAndOnUptoSaid : Prop := fnOnAndOnUptoRow.holds Try.pinned (OpenSpec.upto fnOnAndOnSpec)

/-- 'laws.FnExactCurveOk', WHERE WHAT IT READS IS OF BULK AT MOST 1048576: true; the input reads as it did. -/
def fnExactCurveOkUptoRow : OpenClaim := { program := "ytcapbijccecddaa", sum := "a3f2101481542f73e1356a357210c60bcd71b4b75fbb99e7d481d6d0b92fc844", func := "loop.example/g00521/laws.FnExactCurveOk", spec := "fnExactCurveOk", apart := false, narrowed := true }
def FnExactCurveOkUptoSaid : Prop := fnExactCurveOkUptoRow.holds Try.pinned (OpenSpec.upto fnExactCurveOkSpec)

/-- 'laws.FnExactAlongX', WHERE WHAT IT READS IS OF BULK AT MOST 1048576: true; the input reads as it did. -/
def fnExactAlongXUptoRow : OpenClaim := { program := "ytcapbijccecddaa", sum := "a3f2101481542f73e1356a357210c60bcd71b4b75fbb99e7d481d6d0b92fc844", func := "loop.example/g00521/laws.FnExactAlongX", spec := "fnExactAlongX", apart := false, narrowed := true }
def FnExactAlongXUptoSaid : Prop := fnExactAlongXUptoRow.holds Try.pinned (OpenSpec.upto fnExactAlongXSpec)

/-- 'laws.FnExactAlongY', WHERE WHAT IT READS IS OF BULK AT MOST 1048576: true; the input reads as it did. -/
def fnExactAlongYUptoRow : OpenClaim := { program := "ytcapbijccecddaa", sum := "a3f2101481542f73e1356a357210c60bcd71b4b75fbb99e7d481d6d0b92fc844", func := "loop.example/g00521/laws.FnExactAlongY", spec := "fnExactAlongY", apart := false, narrowed := true }
def FnExactAlongYUptoSaid : Prop := fnExactAlongYUptoRow.holds Try.pinned (OpenSpec.upto fnExactAlongYSpec)

/-- 'laws.FnExactStopOf', WHERE WHAT IT READS IS OF BULK AT MOST 1048576: true; the input reads as it did. -/
def fnExactStopOfUptoRow : OpenClaim := { program := "ytcapbijccecddaa", sum := "a3f2101481542f73e1356a357210c60bcd71b4b75fbb99e7d481d6d0b92fc844", func := "loop.example/g00521/laws.FnExactStopOf", spec := "fnExactStopOf", unfollowed := true, recurses := true, apart := false, narrowed := true }
def FnExactStopOfUptoSaid : Prop := fnExactStopOfUptoRow.holds Try.pinned (OpenSpec.upto fnExactStopOfSpec)

/-- 'laws.FnExactCurveAt', WHERE WHAT IT READS IS OF BULK AT MOST 1048576: true; the input reads as it did. -/
def fnExactCurveAtUptoRow : OpenClaim := { program := "ytcapbijccecddaa", sum := "a3f2101481542f73e1356a357210c60bcd71b4b75fbb99e7d481d6d0b92fc844", func := "loop.example/g00521/laws.FnExactCurveAt", spec := "fnExactCurveAt", unfollowed := true, recurses := true, apart := false, narrowed := true }
def FnExactCurveAtUptoSaid : Prop := fnExactCurveAtUptoRow.holds Try.pinned (OpenSpec.upto fnExactCurveAtSpec)

end Rows
end Go.Proofs.Ytcapbijccecddaa
