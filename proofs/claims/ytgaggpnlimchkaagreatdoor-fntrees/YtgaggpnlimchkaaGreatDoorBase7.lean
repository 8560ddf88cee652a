/- Contracts of chapter 7's functions of the reference: l7Seen, CanMix, l1Size, Apart. -/
import Derived.Test.YtgaggpnlimchkaaGreatDoorBase6b
import Derived.Test.YtgaggpnlimchkaaGreatDoorPlain
import Derived.BigQuiet
import Derived.Test.YtgaggpnlimchkaaGreatDoorFound
namespace Go.Proofs.YtgaggpnlimchkaaGreatDoor.B7
open Go.Proofs.YtgaggpnlimchkaaGreatDoor.P1 Go.Proofs.YtgaggpnlimchkaaGreatDoor.B1 Go.Proofs.YtgaggpnlimchkaaGreatDoor.B2 Go.Proofs.YtgaggpnlimchkaaGreatDoor.T1 Go.Proofs.YtgaggpnlimchkaaGreatDoor.BT Go.Proofs.YtgaggpnlimchkaaGreatDoor.P5 Go.Proofs.YtgaggpnlimchkaaGreatDoor.P6 Go.Proofs.YtgaggpnlimchkaaGreatDoor.P7 Go.Proofs.YtgaggpnlimchkaaGreatDoor.B5 Go.Proofs.YtgaggpnlimchkaaGreatDoor.B6
open Go.ChangeShapes Go.WideShapes Go.ChangeAt Go.RowKit
set_option linter.unusedVariables false

theorem Seen_spec (v : Va) (w : World) : Calls Tryz.prog 132 #[valV v] w (Ans (.bool (P7.seen v)) w) := by
  obtain ⟨k, n, r, g, b, c, t⟩ := v
  unfold valV
  dsimp only
  by_cases h1 : t = [115, 104, 111, 119, 110]
  · have Hs := Lib.hid (show P7.seen ⟨k, n, r, g, b, c, t⟩ = true by unfold P7.seen shownW; simp [h1])
    have e1 : (t == [115, 104, 111, 119, 110]) = true := str_same h1
    clear h1
    go_enter Tryz.func132, Tryz.ntmps132
    go_wp2
    go_ret
    exact ⟨by rw [Hs.out]; rfl, (Below.refl _ _).alloc (Nat.le_refl _) _⟩
  · have e1 : (t == [115, 104, 111, 119, 110]) = false := str_other h1
    by_cases h2 : t = [104, 105, 100, 100, 101, 110]
    · have Hs := Lib.hid (show P7.seen ⟨k, n, r, g, b, c, t⟩ = true by unfold P7.seen hiddenW; simp [h2])
      have e2 : (t == [104, 105, 100, 100, 101, 110]) = true := str_same h2
      clear h1 h2
      go_enter Tryz.func132, Tryz.ntmps132
      go_wp2
      go_ret
      exact ⟨by rw [Hs.out]; rfl, (Below.refl _ _).alloc (Nat.le_refl _) _⟩
    · have Hs := Lib.hid (show P7.seen ⟨k, n, r, g, b, c, t⟩ = false by unfold P7.seen shownW hiddenW; simp [h1, h2])
      have e2 : (t == [104, 105, 100, 100, 101, 110]) = false := str_other h2
      clear h1 h2
      go_enter Tryz.func132, Tryz.ntmps132
      go_wp2
      go_ret
      exact ⟨by rw [Hs.out]; rfl, (Below.refl _ _).alloc (Nat.le_refl _) _⟩

theorem canMix_is (x y : Va) : canMix x y = (sameKind x y && (x.k != 5 || P7.seen x && P7.seen y)) := rfl

end Go.Proofs.YtgaggpnlimchkaaGreatDoor.B7

namespace Go.Proofs.YtgaggpnlimchkaaGreatDoor.B7
open Go.Proofs.YtgaggpnlimchkaaGreatDoor.P1 Go.Proofs.YtgaggpnlimchkaaGreatDoor.B1 Go.Proofs.YtgaggpnlimchkaaGreatDoor.B2 Go.Proofs.YtgaggpnlimchkaaGreatDoor.T1 Go.Proofs.YtgaggpnlimchkaaGreatDoor.BT Go.Proofs.YtgaggpnlimchkaaGreatDoor.P5 Go.Proofs.YtgaggpnlimchkaaGreatDoor.P6 Go.Proofs.YtgaggpnlimchkaaGreatDoor.P7 Go.Proofs.YtgaggpnlimchkaaGreatDoor.B5 Go.Proofs.YtgaggpnlimchkaaGreatDoor.B6 Go.Proofs.YtgaggpnlimchkaaGreatDoor.S7 Go.Proofs.YtgaggpnlimchkaaGreatDoor.D1
open Go.ChangeShapes Go.WideShapes Go.ChangeAt Go.RowKit
set_option linter.unusedVariables false

/-- Three blocks of the call's own: two values and the result's. -/
structure Three (w w1 : World) (xs ys zs : List Value) : Prop where
  x : LBlk w1 w.heap.size xs
  y : LBlk w1 (w.heap.size + 1) ys
  z : LBlk w1 (w.heap.size + 2) zs
  b : Below w.heap.size w w1

theorem three_new (w : World) (xs ys zs : List Value) (t : TypeId) : Three w (((w.alloc (.cells xs.toArray t)).alloc (.cells ys.toArray t)).alloc (.cells zs.toArray t)) xs ys zs := by
  refine ⟨((LBlk.new w xs t).alloc _).alloc _, ?_, ?_, (((Below.refl _ _).alloc (Nat.le_refl _) _).alloc (by simp) _).alloc (by simp; omega) _⟩
  · have := (LBlk.new (w.alloc (.cells xs.toArray t)) ys t).alloc (.cells zs.toArray t)
    rwa [World.size_alloc] at this
  · have := LBlk.new ((w.alloc (.cells xs.toArray t)).alloc (.cells ys.toArray t)) zs t
    rwa [World.size_alloc, World.size_alloc] at this

theorem three_call {w w1 w2 : World} {xs ys zs : List Value} (h : Three w w1 xs ys zs) (g : Below w1.heap.size w1 w2) : Three w w2 xs ys zs :=
  ⟨h.x.below g, h.y.below g, h.z.below g, h.b.trans (g.mono h.b.size)⟩

theorem three_drew {w w1 : World} {xs ys zs : List Value} (h : Three w w1 xs ys zs) : Three w w1.drew xs ys zs :=
  ⟨h.x, h.y, h.z, ⟨h.b.os, h.b.tape, h.b.output, h.b.size, h.b.block⟩⟩

/-- An int that may be a number's, a shade's. -/
def Nm (a : Int) : Prop := -1000000 ≤ a ∧ a ≤ 1000000

def Lv (a : Int) : Prop := 0 ≤ a ∧ a ≤ 255

def Rc (p : Int) : Prop := -131072 ≤ p ∧ p ≤ 196608

theorem cells_put {w : World} {b c : Nat} (o : Nat) {u : Value} (hc : c ≠ b) (t : w.cell? ⟨c, o, none⟩ = some u) (v0 v1 v2 v3 v4 v5 v6 : Value) : (put7 w b v0 v1 v2 v3 v4 v5 v6).cell? ⟨c, o, none⟩ = some u :=
  (put7_cell (p := ⟨c, o, none⟩) hc _ _ _ _ _ _ _).trans t

end Go.Proofs.YtgaggpnlimchkaaGreatDoor.B7
