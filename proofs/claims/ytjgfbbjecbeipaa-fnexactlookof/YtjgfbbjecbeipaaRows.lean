/-
  No cell of these rows narrows 'for every input' (looked for: loops, veiled, ifaces, maps, wideKeys, modest, calm, conditions, laid).
  DERIVED. THE GIVEN ROWS OF THIS SEAT. 5 by the template 'for every input the law returns true; each argument reads behind the call as it read before'; 0 by the template 'total and deterministic' (their statements: YtjgfbbjecbeipaaTotals.lean).
  GIVEN WITH THE SEED: the statements are not yours to turn. If you find one false, say at which input.
  Laid BY PROGRAM, IN A SANDBOX (cutbox-rows.mjs): the forced cells as the released guide's own fill.sh prints them over the translation 2a3162650ece4dd8… (all of the seat's roots in one cut). By AI agents, Wed Nov 11 2026. No macro, syntax, notation, axiom, sorry.
-/
import Derived.Test.YtjgfbbjecbeipaaChecked
import GoSem.Claim
import GoSem.ClaimJoined
import GoSem.ClaimMapViews
import Derived.JoinedTies
import Derived.KernelRfl
namespace Go.Proofs.Ytjgfbbjecbeipaa
/- THE CELL 'sum', in the pinned program and in every row, IS THE sha256 OF THE DUMP (.gsa) THAT YtjgfbbjecbeipaaProg.lean LOADS. Nothing in Lean hashes anything: it is a label: what it is worth is what the hold of that sum in a sandbox is worth. -/
noncomputable def Try.pinned : Pinned := { name := "ytjgfbbjecbeipaa", sum := "2a3162650ece4dd87998b11c6f9237abc0ea060ef90a79560fcccbb7816de801", checked := Try.checked }
namespace Rows
def none {H : Type} : Left H := { results := [], args := [] }

/-- 'laws.FnExactLookOf': WHATEVER THE INPUT: true; the input reads as it did. -/
def fnExactLookOfSpec : ChangeSpec := { name := "fnExactLookOf", fn := fun _ => fun
  | [d] => { results := [.lit (.bool true)], args := [d] }
  | _ => none }
def fnExactLookOfRow : OpenClaim := { program := "ytjgfbbjecbeipaa", sum := "2a3162650ece4dd87998b11c6f9237abc0ea060ef90a79560fcccbb7816de801", func := "loop.example/g00521/laws.FnExactLookOf", spec := "fnExactLookOf", unfollowed := true, recurses := true, apart := false }
def FnExactLookOfSaid : Prop := fnExactLookOfRow.holds Try.pinned (OpenSpec.ofChange fnExactLookOfSpec)

/-- ITS FALSE NEIGHBOUR: 'it returns false'. Refute it at one input. -/
def fnExactLookOfWrong : ChangeSpec := { name := "fnExactLookOf", fn := fun _ => fun
  | [d] => { results := [.lit (.bool false)], args := [d] }
  | _ => none }
def FnExactLookOfWrongFalsely : Prop := fnExactLookOfRow.holds Try.pinned (OpenSpec.ofChange fnExactLookOfWrong)

/-- 'laws.FnExactNameOf': WHATEVER THE INPUT: true; the input reads as it did. -/
def fnExactNameOfSpec : ChangeSpec := { name := "fnExactNameOf", fn := fun _ => fun
  | [d] => { results := [.lit (.bool true)], args := [d] }
  | _ => none }
def fnExactNameOfRow : OpenClaim := { program := "ytjgfbbjecbeipaa", sum := "2a3162650ece4dd87998b11c6f9237abc0ea060ef90a79560fcccbb7816de801", func := "loop.example/g00521/laws.FnExactNameOf", spec := "fnExactNameOf", apart := false }
def FnExactNameOfSaid : Prop := fnExactNameOfRow.holds Try.pinned (OpenSpec.ofChange fnExactNameOfSpec)

/-- ITS FALSE NEIGHBOUR: 'it returns false'. Refute it at one input. -/
def fnExactNameOfWrong : ChangeSpec := { name := "fnExactNameOf", fn := fun _ => fun
  | [d] => { results := [.lit (.bool false)], args := [d] }
  | _ => none }
def FnExactNameOfWrongFalsely : Prop := fnExactNameOfRow.holds Try.pinned (OpenSpec.ofChange fnExactNameOfWrong)

/-- 'laws.FnExactAtFirst': WHATEVER THE INPUT: true; the input reads as it did. -/
def fnExactAtFirstSpec : ChangeSpec := { name := "fnExactAtFirst", fn := fun _ => fun
  | [d] => { results := [.lit (.bool true)], args := [d] }
  | _ => none }
def fnExactAtFirstRow : OpenClaim := { program := "ytjgfbbjecbeipaa", sum := "2a3162650ece4dd87998b11c6f9237abc0ea060ef90a79560fcccbb7816de801", func := "loop.example/g00521/laws.FnExactAtFirst", spec := "fnExactAtFirst", apart := false }
def FnExactAtFirstSaid : Prop := fnExactAtFirstRow.holds Try.pinned (OpenSpec.ofChange fnExactAtFirstSpec)

/-- ITS FALSE NEIGHBOUR: 'it returns false'. Refute it at one input. -/
def fnExactAtFirstWrong : ChangeSpec := { name := "fnExactAtFirst", fn := fun _ => fun
  | [d] => { results := [.lit (.bool false)], args := [d] }
  | _ => none }
def FnExactAtFirstWrongFalsely : Prop := fnExactAtFirstRow.holds Try.pinned (OpenSpec.ofChange fnExactAtFirstWrong)

/-- 'laws.FnExactHandedDown': WHATEVER THE INPUT: true; the input reads as it did. -/
def fnExactHandedDownSpec : ChangeSpec := { name := "fnExactHandedDown", fn := fun _ => fun
  | [d] => { results := [.lit (.bool true)], args := [d] }
  | _ => none }
def fnExactHandedDownRow : OpenClaim := { program := "ytjgfbbjecbeipaa", sum := "2a3162650ece4dd87998b11c6f9237abc0ea060ef90a79560fcccbb7816de801", func := "loop.example/g00521/laws.FnExactHandedDown", spec := "fnExactHandedDown", apart := false }
def FnExactHandedDownSaid : Prop := fnExactHandedDownRow.holds Try.pinned (OpenSpec.ofChange fnExactHandedDownSpec)

/-- ITS FALSE NEIGHBOUR: 'it returns false'. Refute it at one input. -/
def fnExactHandedDownWrong : ChangeSpec := { name := "fnExactHandedDown", fn := fun _ => fun
  | [d] => { results := [.lit (.bool false)], args := [d] }
  | _ => none }
def FnExactHandedDownWrongFalsely : Prop := fnExactHandedDownRow.holds Try.pinned (OpenSpec.ofChange fnExactHandedDownWrong)

/-- 'laws.FnExactKept': WHATEVER THE INPUT: true; the input reads as it did. -/
def fnExactKeptSpec : ChangeSpec := { name := "fnExactKept", fn := fun _ => fun
  | [d1, d2] => { results := [.lit (.bool true)], args := [d1, d2] }
  | _ => none }
def fnExactKeptRow : OpenClaim := { program := "ytjgfbbjecbeipaa", sum := "2a3162650ece4dd87998b11c6f9237abc0ea060ef90a79560fcccbb7816de801", func := "loop.example/g00521/laws.FnExactKept", spec := "fnExactKept", unfollowed := true, recurses := true, apart := false }
def FnExactKeptSaid : Prop := fnExactKeptRow.holds Try.pinned (OpenSpec.ofChange fnExactKeptSpec)

/-- ITS FALSE NEIGHBOUR: 'it returns false'. Refute it at one input. -/
def fnExactKeptWrong : ChangeSpec := { name := "fnExactKept", fn := fun _ => fun
  | [d1, d2] => { results := [.lit (.bool false)], args := [d1, d2] }
  | _ => none }
def FnExactKeptWrongFalsely : Prop := fnExactKeptRow.holds Try.pinned (OpenSpec.ofChange fnExactKeptWrong)

/- THE SECOND FORM. 'bulk': how many values and letters a reading holds, each counted each time it is reached (what is shared counts as often as it is met; a slice's spare places count too). A statement '..UptoSaid' is the law's where the arguments, and the package variables that the reading takes, are together of bulk at most 1048576: NARROWER than '..Said'. Prove '..Said' where nothing that the law and all that it calls make is longer than what came in: it says more and counts as full. Else prove '..UptoSaid'. A law counts once. -/
mutual
def uptoBulk {H : Type} : DataW H → Nat
  | .lit (.string bytes) => bytes.length + 1
  | .lit _ => 1
  | .nil => 1
  | .ptr d => uptoBulk d + 1
  | .slice elems spare => uptoBulkAll elems + uptoBulkAll spare + 1
  | .agg parts => uptoBulkAll parts + 1
  | .iface _ d => uptoBulk d + 1
  | .map entries => uptoBulkEntries entries + 1
  | .held _ => 1
def uptoBulkAll {H : Type} : List (DataW H) → Nat
  | [] => 0
  | d :: r => uptoBulk d + uptoBulkAll r
def uptoBulkEntries {H : Type} : List (Lit × DataW H) → Nat
  | [] => 0
  | x :: r => uptoBulkEntry x + uptoBulkEntries r
def uptoBulkEntry {H : Type} : Lit × DataW H → Nat
  | (.string bytes, d) => bytes.length + uptoBulk d + 1
  | (_, d) => uptoBulk d + 1
 end
def uptoSmall : (H : Type) → List (DataW H) → Bool := fun _ ds => decide (uptoBulkAll ds ≤ 1048576)
def OpenSpec.upto (s : _root_.Go.ChangeSpec) : _root_.Go.OpenSpec := { _root_.Go.OpenSpec.ofChange s with cond := some uptoSmall }

/-- 'laws.FnExactLookOf', WHERE WHAT IT READS IS OF BULK AT MOST 1048576: true; the input reads as it did. -/
def fnExactLookOfUptoRow : OpenClaim := { program := "ytjgfbbjecbeipaa", sum := "2a3162650ece4dd87998b11c6f9237abc0ea060ef90a79560fcccbb7816de801", func := "loop.example/g00521/laws.FnExactLookOf", spec := "fnExactLookOf", unfollowed := true, recurses := true, apart := false, narrowed := true }
def FnExactLookOfUptoSaid : Prop := fnExactLookOfUptoRow.holds Try.pinned (OpenSpec.upto fnExactLookOfSpec)

/-- 'laws.FnExactNameOf', WHERE WHAT IT READS IS OF BULK AT MOST 1048576: true; the input reads as it did. -/
def fnExactNameOfUptoRow : OpenClaim := { program := "ytjgfbbjecbeipaa", sum := "2a3162650ece4dd87998b11c6f9237abc0ea060ef90a79560fcccbb7816de801", func := "loop.example/g00521/laws.FnExactNameOf", spec := "fnExactNameOf", apart := false, narrowed := true }
def FnExactNameOfUptoSaid : Prop := fnExactNameOfUptoRow.holds Try.pinned (OpenSpec.upto fnExactNameOfSpec)

/-- 'laws.FnExactAtFirst', WHERE WHAT IT READS IS OF BULK AT MOST 1048576: true; the input reads as it did. -/
def fnExactAtFirstUptoRow : OpenClaim := { program := "ytjgfbbjecbeipaa", sum := "2a3162650ece4dd87998b11c6f9237abc0ea060ef90a79560fcccbb7816de801", func := "loop.example/g00521/laws.FnExactAtFirst", spec := "fnExactAtFirst", apart := false, narrowed := true }
def FnExactAtFirstUptoSaid : Prop := fnExactAtFirstUptoRow.holds Try.pinned (OpenSpec.upto fnExactAtFirstSpec)

/-- 'laws.FnExactHandedDown', WHERE WHAT IT READS IS OF BULK AT MOST 1048576: true; the input reads as it did. -/
def fnExactHandedDownUptoRow : OpenClaim := { program := "ytjgfbbjecbeipaa", sum := "2a3162650ece4dd87998b11c6f9237abc0ea060ef90a79560fcccbb7816de801", func := "loop.example/g00521/laws.FnExactHandedDown", spec := "fnExactHandedDown", apart := false, narrowed := true }
def FnExactHandedDownUptoSaid : Prop := fnExactHandedDownUptoRow.holds Try.pinned (OpenSpec.upto fnExactHandedDownSpec)

/-- 'laws.FnExactKept', WHERE WHAT IT READS IS OF BULK AT MOST 1048576: true; the input reads as it did. -/
def fnExactKeptUptoRow : OpenClaim := { program := "ytjgfbbjecbeipaa", sum := "2a3162650ece4dd87998b11c6f9237abc0ea060ef90a79560fcccbb7816de801", func := "loop.example/g00521/laws.FnExactKept", spec := "fnExactKept", unfollowed := true, recurses := true, apart := false, narrowed := true }
def FnExactKeptUptoSaid : Prop := fnExactKeptUptoRow.holds Try.pinned (OpenSpec.upto fnExactKeptSpec)

end Rows
end Go.Proofs.Ytjgfbbjecbeipaa
