/- Contracts of chapter 7's functions of the reference: l7Seen, CanMix, l1Size, Apart. -/
import Derived.Test.YtjgfbbjecbeipaaBase6c
import Derived.Test.YtjgfbbjecbeipaaPlain7
import Derived.BigQuiet
namespace Go.Proofs.Ytjgfbbjecbeipaa.B7
open Go.Proofs.Ytjgfbbjecbeipaa.P1 Go.Proofs.Ytjgfbbjecbeipaa.B1 Go.Proofs.Ytjgfbbjecbeipaa.B2 Go.Proofs.Ytjgfbbjecbeipaa.T1 Go.Proofs.Ytjgfbbjecbeipaa.BT Go.Proofs.Ytjgfbbjecbeipaa.P5 Go.Proofs.Ytjgfbbjecbeipaa.P6 Go.Proofs.Ytjgfbbjecbeipaa.P7 Go.Proofs.Ytjgfbbjecbeipaa.B5 Go.Proofs.Ytjgfbbjecbeipaa.B6
open Go.ChangeShapes Go.WideShapes Go.ChangeAt Go.RowKit
set_option linter.unusedVariables false

theorem canMix_is (x y : Va) : canMix x y = (sameKind x y && (x.k != 5 || P7.seen x && P7.seen y)) := rfl

end Go.Proofs.Ytjgfbbjecbeipaa.B7
