/- Contracts of chapter 7's functions of the reference: l7Seen, CanMix, l1Size, Apart. -/
import Derived.Test.YtmcjfjchpclamaaBase6c
import Derived.Test.YtmcjfjchpclamaaPlain
import Derived.BigQuiet
namespace Go.Proofs.Ytmcjfjchpclamaa.B7
open Go.Proofs.Ytmcjfjchpclamaa.P1 Go.Proofs.Ytmcjfjchpclamaa.B1 Go.Proofs.Ytmcjfjchpclamaa.B2 Go.Proofs.Ytmcjfjchpclamaa.T1 Go.Proofs.Ytmcjfjchpclamaa.BT Go.Proofs.Ytmcjfjchpclamaa.P5 Go.Proofs.Ytmcjfjchpclamaa.P6 Go.Proofs.Ytmcjfjchpclamaa.P7 Go.Proofs.Ytmcjfjchpclamaa.B5 Go.Proofs.Ytmcjfjchpclamaa.B6
open Go.ChangeShapes Go.WideShapes Go.ChangeAt Go.RowKit
set_option linter.unusedVariables false

theorem canMix_is (x y : Va) : canMix x y = (sameKind x y && (x.k != 5 || P7.seen x && P7.seen y)) := rfl

end Go.Proofs.Ytmcjfjchpclamaa.B7
