/- Contracts of chapter 6's functions of the reference: SameKind, l6Digit, l6Byte. -/
import Derived.Test.YtgaggpnlimchkaaGreatDoorBase6b
namespace Go.Proofs.YtgaggpnlimchkaaGreatDoor.B6
open Go.Proofs.YtgaggpnlimchkaaGreatDoor.P1 Go.Proofs.YtgaggpnlimchkaaGreatDoor.B1 Go.Proofs.YtgaggpnlimchkaaGreatDoor.B2 Go.Proofs.YtgaggpnlimchkaaGreatDoor.T1 Go.Proofs.YtgaggpnlimchkaaGreatDoor.BT Go.Proofs.YtgaggpnlimchkaaGreatDoor.P5 Go.Proofs.YtgaggpnlimchkaaGreatDoor.P6 Go.Proofs.YtgaggpnlimchkaaGreatDoor.B5
open Go.ChangeShapes Go.WideShapes Go.ChangeAt Go.RowKit
set_option linter.unusedVariables false

theorem quiet_same {P : Program} {f : FuncId} {args : Array Value} {w : World} {n : Nat} {v : Value}
    (h : Calls P f args (w.drewN n) fun e w' => e = .returned v ∧ w.drewN n = w') : Calls P f args (w.drewN n) fun e w'' => e = .returned v ∧ ∃ m, w'' = w.drewN m :=
  h.mono fun _ _ ⟨he, hm⟩ => ⟨he, n, hm.symm⟩

def sameKind (x y : Va) : Bool := valueOk x && valueOk y && x.k == y.k

theorem digOf_range {b : UInt8} (h : isHex b = true) : 0 ≤ digOf b ∧ digOf b ≤ 15 := by
  simp only [isHex, isDigit, Bool.or_eq_true, Bool.and_eq_true, decide_eq_true_eq] at h
  unfold digOf
  split <;> omega

theorem byteOf_at {l : List UInt8} {i : Nat} {x y : UInt8} (hx : l[i]? = some x) (hy : l[i + 1]? = some y) : P6.byteOf l i = 16 * digOf x + digOf y := by
  unfold P6.byteOf
  rw [List.getD_eq_getElem?_getD, List.getD_eq_getElem?_getD, hx, hy]; rfl

end Go.Proofs.YtgaggpnlimchkaaGreatDoor.B6
