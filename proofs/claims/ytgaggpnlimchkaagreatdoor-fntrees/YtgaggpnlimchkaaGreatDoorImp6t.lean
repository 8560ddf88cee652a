/- Contracts of chapter 6's functions of the program: digits, text, colorText, ShowValue. -/
import Derived.Test.YtgaggpnlimchkaaGreatDoorImp6b
import Derived.Test.YtgaggpnlimchkaaGreatDoorFound
import Derived.StillTailTactics
namespace Go.Proofs.YtgaggpnlimchkaaGreatDoor.V6
open Go.Proofs.YtgaggpnlimchkaaGreatDoor.P1 Go.Proofs.YtgaggpnlimchkaaGreatDoor.B1 Go.Proofs.YtgaggpnlimchkaaGreatDoor.B2 Go.Proofs.YtgaggpnlimchkaaGreatDoor.T1 Go.Proofs.YtgaggpnlimchkaaGreatDoor.BT Go.Proofs.YtgaggpnlimchkaaGreatDoor.P5 Go.Proofs.YtgaggpnlimchkaaGreatDoor.P6 Go.Proofs.YtgaggpnlimchkaaGreatDoor.B5 Go.Proofs.YtgaggpnlimchkaaGreatDoor.B6 Go.Proofs.YtgaggpnlimchkaaGreatDoor.S7 Go.Proofs.YtgaggpnlimchkaaGreatDoor.D1 Go.Proofs.YtgaggpnlimchkaaGreatDoor.DB
open Go.ChangeShapes Go.WideShapes Go.ChangeAt Go.RowKit
set_option linter.unusedVariables false

theorem hexs_at (q : Nat) (h : q < 16) : ([48, 49, 50, 51, 52, 53, 54, 55, 56, 57, 97, 98, 99, 100, 101, 102] : List UInt8)[q]? = some (hexD q) := by
  have : q = 0 ∨ q = 1 ∨ q = 2 ∨ q = 3 ∨ q = 4 ∨ q = 5 ∨ q = 6 ∨ q = 7 ∨ q = 8 ∨ q = 9 ∨ q = 10 ∨ q = 11 ∨ q = 12 ∨ q = 13 ∨ q = 14 ∨ q = 15 := by omega
  rcases this with rfl | rfl | rfl | rfl | rfl | rfl | rfl | rfl | rfl | rfl | rfl | rfl | rfl | rfl | rfl | rfl <;> rfl

theorem cell_two_new (w : World) (v0 v1 : Value) (t : TypeId) : ∀ j u, [v0, v1][j]? = some u → (w.alloc (.cells #[v0, v1] t)).cell? ((⟨w.heap.size, 0, none⟩ : Addr).add j) = some u := by
  intro j u hj
  rw [add_zero_at]
  match j, hj with
  | 0, hj => obtain rfl := Option.some.inj hj; simp
  | 1, hj => obtain rfl := Option.some.inj hj; simp

theorem byteInfo6 : (Tryz.prog.info? 5).map (fun i => (i.zero, i.size, i.bytes)) = some (some (.int .u8 0), 1, 1) := by kernel_rfl

def hexes (ns : List Nat) : List UInt8 := ns.flatMap hex2

theorem hexes_more {ns : List Nat} {i x : Nat} (h : ns[i]? = some x) : hexes (ns.take (i + 1)) = hexes (ns.take i) ++ hex2 x := by
  unfold hexes
  rw [List.take_add_one, h]
  simp

theorem hexes_len (ns : List Nat) : (hexes ns).length = 2 * ns.length := by
  induction ns with
  | nil => rfl
  | cons x t ih => simp only [hexes, List.flatMap_cons, List.length_append, List.length_cons] at ih ⊢; rw [ih]; simp [hex2]; omega

end Go.Proofs.YtgaggpnlimchkaaGreatDoor.V6
