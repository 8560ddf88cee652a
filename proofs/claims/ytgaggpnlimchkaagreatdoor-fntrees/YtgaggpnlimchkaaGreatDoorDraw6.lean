/- Draws of chapter 6: l6Draw, l6DrawAny, DrawValueOk, DrawShowValue, DrawReadValue, DrawSameKind. -/
import Derived.Test.YtgaggpnlimchkaaGreatDoorDraw5
import Derived.Test.YtgaggpnlimchkaaGreatDoorFound
import Derived.Test.YtgaggpnlimchkaaGreatDoorBase6b
namespace Go.Proofs.YtgaggpnlimchkaaGreatDoor.D6
open Go.Proofs.YtgaggpnlimchkaaGreatDoor.P1 Go.Proofs.YtgaggpnlimchkaaGreatDoor.B1 Go.Proofs.YtgaggpnlimchkaaGreatDoor.B2 Go.Proofs.YtgaggpnlimchkaaGreatDoor.T1 Go.Proofs.YtgaggpnlimchkaaGreatDoor.BT Go.Proofs.YtgaggpnlimchkaaGreatDoor.P5 Go.Proofs.YtgaggpnlimchkaaGreatDoor.P6 Go.Proofs.YtgaggpnlimchkaaGreatDoor.B5 Go.Proofs.YtgaggpnlimchkaaGreatDoor.B6 Go.Proofs.YtgaggpnlimchkaaGreatDoor.S7 Go.Proofs.YtgaggpnlimchkaaGreatDoor.D1 Go.Proofs.YtgaggpnlimchkaaGreatDoor.D2 Go.Proofs.YtgaggpnlimchkaaGreatDoor.DB Go.Proofs.YtgaggpnlimchkaaGreatDoor.D5
open Go.ChangeShapes Go.WideShapes Go.ChangeAt Go.RowKit
set_option linter.unusedVariables false

/-- A value drawn. -/
def DrawnV (c : Nat) (a : Option Addr) (len cap : Nat) (w : World) (e : Ending) (w' : World) : Prop :=
  ∃ y : Va, e = .returned (valV y) ∧ y.w.length ≤ 100 ∧ Cur w' c a len cap ∧ Only c w w'

theorem fr_put7 {c : Nat} {a : Option Addr} {len cap : Nat} {w w' : World} (h : Fr c a len cap w w') {b : Nat} (hb : w.heap.size ≤ b) (hbc : b ≠ c) (v0 v1 v2 v3 v4 v5 v6 : Value) : Fr c a len cap w (put7 w' b v0 v1 v2 v3 v4 v5 v6) :=
  ((((((h.set hb hbc 0 v0).set hb hbc 1 v1).set hb hbc 2 v2).set hb hbc 3 v3).set hb hbc 4 v4).set hb hbc 5 v5).set hb hbc 6 v6

def kinds5 : List (List UInt8) := [[115, 104, 111, 119, 110], [104, 105, 100, 100, 101, 110], [112, 108, 97, 105, 110], [114, 111, 117, 110, 100], [98, 45, 50]]

theorem kinds5_at {k : Nat} (h : k < 5) : ∃ t, kinds5[k]? = some t ∧ t.length ≤ 10 := by
  have : k = 0 ∨ k = 1 ∨ k = 2 ∨ k = 3 ∨ k = 4 := by omega
  rcases this with rfl | rfl | rfl | rfl | rfl <;> exact ⟨_, rfl, by decide⟩

def words4 : List (List UInt8) := [[], [65], [97, 98, 99, 100, 101, 102, 103, 104, 105, 106, 107, 108], [97, 98, 99, 100, 101, 102, 103, 104, 105, 106, 107, 108, 109]]

theorem words4_at {k : Nat} (h : k < 4) : ∃ t, words4[k]? = some t ∧ t.length ≤ 13 := by
  have : k = 0 ∨ k = 1 ∨ k = 2 ∨ k = 3 := by omega
  rcases this with rfl | rfl | rfl | rfl <;> exact ⟨_, rfl, by decide⟩

end Go.Proofs.YtgaggpnlimchkaaGreatDoor.D6
