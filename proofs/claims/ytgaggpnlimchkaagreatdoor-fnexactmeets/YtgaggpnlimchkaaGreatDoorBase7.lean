/- Contracts of chapter 7's functions of the reference: l7Seen, CanMix, l1Size, Apart. -/
import Derived.Test.YtgaggpnlimchkaaGreatDoorBase6c
import Derived.Test.YtgaggpnlimchkaaGreatDoorPlain
import Derived.BigQuiet
namespace Go.Proofs.YtgaggpnlimchkaaGreatDoor.B7
open Go.Proofs.YtgaggpnlimchkaaGreatDoor.P1 Go.Proofs.YtgaggpnlimchkaaGreatDoor.B1 Go.Proofs.YtgaggpnlimchkaaGreatDoor.B2 Go.Proofs.YtgaggpnlimchkaaGreatDoor.T1 Go.Proofs.YtgaggpnlimchkaaGreatDoor.BT Go.Proofs.YtgaggpnlimchkaaGreatDoor.P5 Go.Proofs.YtgaggpnlimchkaaGreatDoor.P6 Go.Proofs.YtgaggpnlimchkaaGreatDoor.P7 Go.Proofs.YtgaggpnlimchkaaGreatDoor.B5 Go.Proofs.YtgaggpnlimchkaaGreatDoor.B6
open Go.ChangeShapes Go.WideShapes Go.ChangeAt Go.RowKit
set_option linter.unusedVariables false

theorem Seen_spec (v : Va) (w : World) : Calls Tryz.prog 132 #[valV v] w (Ans (.bool (P7.seen v)) w) := by
  obtain ⟨k, n, r, g, b, c, t⟩ := v
  unfold valV
  dsimp only
  by_cases h1 : t = [115, 104, 111, 119, 110]
  · have Hs := Lib.hid (show P7.seen ⟨k, n, r, g, b, c, t⟩ = true by unfold P7.seen shownW; simp [h1])
    have e1 : (t == [115, 104, 111, 119, 110]) = true := str_same h1
    clear h1
    go_enter Tryz.func132, Tryz.ntmps132
    go_wp2
    go_ret
    exact ⟨by rw [Hs.out]; rfl, (Below.refl _ _).alloc (Nat.le_refl _) _⟩
  · have e1 : (t == [115, 104, 111, 119, 110]) = false := str_other h1
    by_cases h2 : t = [104, 105, 100, 100, 101, 110]
    · have Hs := Lib.hid (show P7.seen ⟨k, n, r, g, b, c, t⟩ = true by unfold P7.seen hiddenW; simp [h2])
      have e2 : (t == [104, 105, 100, 100, 101, 110]) = true := str_same h2
      clear h1 h2
      go_enter Tryz.func132, Tryz.ntmps132
      go_wp2
      go_ret
      exact ⟨by rw [Hs.out]; rfl, (Below.refl _ _).alloc (Nat.le_refl _) _⟩
    · have Hs := Lib.hid (show P7.seen ⟨k, n, r, g, b, c, t⟩ = false by unfold P7.seen shownW hiddenW; simp [h1, h2])
      have e2 : (t == [104, 105, 100, 100, 101, 110]) = false := str_other h2
      clear h1 h2
      go_enter Tryz.func132, Tryz.ntmps132
      go_wp2
      go_ret
      exact ⟨by rw [Hs.out]; rfl, (Below.refl _ _).alloc (Nat.le_refl _) _⟩

theorem canMix_is (x y : Va) : canMix x y = (sameKind x y && (x.k != 5 || P7.seen x && P7.seen y)) := rfl

end Go.Proofs.YtgaggpnlimchkaaGreatDoor.B7
