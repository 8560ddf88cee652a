/- Contracts of chapter 6's functions of the reference: l6Hex, l6Show, ShowValue, SameKind, l6Digit, l6Byte. -/
import Derived.Test.YtgaggpnlimchkaaGreatDoorBase6
import Derived.Test.YtgaggpnlimchkaaGreatDoorBase5h
import Derived.Deep.QuietTactic
import Derived.BigQuiet
namespace Go.Proofs.YtgaggpnlimchkaaGreatDoor.B6
open Go.Proofs.YtgaggpnlimchkaaGreatDoor.P1 Go.Proofs.YtgaggpnlimchkaaGreatDoor.B1 Go.Proofs.YtgaggpnlimchkaaGreatDoor.B2 Go.Proofs.YtgaggpnlimchkaaGreatDoor.T1 Go.Proofs.YtgaggpnlimchkaaGreatDoor.BT Go.Proofs.YtgaggpnlimchkaaGreatDoor.P5 Go.Proofs.YtgaggpnlimchkaaGreatDoor.P6 Go.Proofs.YtgaggpnlimchkaaGreatDoor.B5
open Go.ChangeShapes Go.WideShapes Go.ChangeAt Go.RowKit
set_option linter.unusedVariables false

theorem Below.drewN {B : Nat} {w w1 : World} (h : Below B w w1) (n : Nat) : Below B w (w1.drewN n) := ⟨h.os, h.tape, h.output, h.size, h.block⟩

theorem held7_drew {w w1 : World} {b1 : Nat} {v10 v11 v12 v13 v14 v15 v16 : Value} (c10 : w1.cell? ⟨b1, 0, none⟩ = some v10) (c11 : w1.cell? ⟨b1, 1, none⟩ = some v11) (c12 : w1.cell? ⟨b1, 2, none⟩ = some v12) (c13 : w1.cell? ⟨b1, 3, none⟩ = some v13) (c14 : w1.cell? ⟨b1, 4, none⟩ = some v14) (c15 : w1.cell? ⟨b1, 5, none⟩ = some v15) (c16 : w1.cell? ⟨b1, 6, none⟩ = some v16) (l1 : b1 < w1.heap.size) (hB : Below w.heap.size w w1) :
    w1.drew.cell? ⟨b1, 0, none⟩ = some v10 ∧ w1.drew.cell? ⟨b1, 1, none⟩ = some v11 ∧ w1.drew.cell? ⟨b1, 2, none⟩ = some v12 ∧ w1.drew.cell? ⟨b1, 3, none⟩ = some v13 ∧ w1.drew.cell? ⟨b1, 4, none⟩ = some v14 ∧ w1.drew.cell? ⟨b1, 5, none⟩ = some v15 ∧ w1.drew.cell? ⟨b1, 6, none⟩ = some v16 ∧ b1 < w1.drew.heap.size ∧ Below w.heap.size w w1.drew :=
  ⟨c10, c11, c12, c13, c14, c15, c16, l1, ⟨hB.os, hB.tape, hB.output, hB.size, hB.block⟩⟩

theorem held7_call {w w1 w2 : World} {b1 : Nat} {v10 v11 v12 v13 v14 v15 v16 : Value} (g : Below w1.heap.size w1 w2) (c10 : w1.cell? ⟨b1, 0, none⟩ = some v10) (c11 : w1.cell? ⟨b1, 1, none⟩ = some v11) (c12 : w1.cell? ⟨b1, 2, none⟩ = some v12) (c13 : w1.cell? ⟨b1, 3, none⟩ = some v13) (c14 : w1.cell? ⟨b1, 4, none⟩ = some v14) (c15 : w1.cell? ⟨b1, 5, none⟩ = some v15) (c16 : w1.cell? ⟨b1, 6, none⟩ = some v16) (l1 : b1 < w1.heap.size) (hB : Below w.heap.size w w1) :
    w2.cell? ⟨b1, 0, none⟩ = some v10 ∧ w2.cell? ⟨b1, 1, none⟩ = some v11 ∧ w2.cell? ⟨b1, 2, none⟩ = some v12 ∧ w2.cell? ⟨b1, 3, none⟩ = some v13 ∧ w2.cell? ⟨b1, 4, none⟩ = some v14 ∧ w2.cell? ⟨b1, 5, none⟩ = some v15 ∧ w2.cell? ⟨b1, 6, none⟩ = some v16 ∧ b1 < w2.heap.size ∧ Below w.heap.size w w2 :=
  ⟨(g.cell (p := ⟨b1, 0, none⟩) l1).trans c10, (g.cell (p := ⟨b1, 1, none⟩) l1).trans c11, (g.cell (p := ⟨b1, 2, none⟩) l1).trans c12, (g.cell (p := ⟨b1, 3, none⟩) l1).trans c13, (g.cell (p := ⟨b1, 4, none⟩) l1).trans c14, (g.cell (p := ⟨b1, 5, none⟩) l1).trans c15, (g.cell (p := ⟨b1, 6, none⟩) l1).trans c16, Nat.lt_of_lt_of_le l1 g.size, hB.trans (g.mono hB.size)⟩

theorem held7_new {w w1 : World} (v10 v11 v12 v13 v14 v15 v16 : Value) (t : TypeId) (hb : Below w.heap.size w w1) :
    (w1.alloc (.cells #[v10, v11, v12, v13, v14, v15, v16] t)).cell? ⟨w1.heap.size, 0, none⟩ = some v10 ∧ (w1.alloc (.cells #[v10, v11, v12, v13, v14, v15, v16] t)).cell? ⟨w1.heap.size, 1, none⟩ = some v11 ∧ (w1.alloc (.cells #[v10, v11, v12, v13, v14, v15, v16] t)).cell? ⟨w1.heap.size, 2, none⟩ = some v12 ∧ (w1.alloc (.cells #[v10, v11, v12, v13, v14, v15, v16] t)).cell? ⟨w1.heap.size, 3, none⟩ = some v13 ∧ (w1.alloc (.cells #[v10, v11, v12, v13, v14, v15, v16] t)).cell? ⟨w1.heap.size, 4, none⟩ = some v14 ∧ (w1.alloc (.cells #[v10, v11, v12, v13, v14, v15, v16] t)).cell? ⟨w1.heap.size, 5, none⟩ = some v15 ∧ (w1.alloc (.cells #[v10, v11, v12, v13, v14, v15, v16] t)).cell? ⟨w1.heap.size, 6, none⟩ = some v16 ∧ w1.heap.size < (w1.alloc (.cells #[v10, v11, v12, v13, v14, v15, v16] t)).heap.size ∧ Below w.heap.size w (w1.alloc (.cells #[v10, v11, v12, v13, v14, v15, v16] t)) :=
  ⟨by simp, by simp, by simp, by simp, by simp, by simp, by simp, by simp, hb.alloc hb.size _⟩

theorem held77_drew {w w1 : World} {b1 b2 : Nat} {v10 v11 v12 v13 v14 v15 v16 v20 v21 v22 v23 v24 v25 v26 : Value} (c10 : w1.cell? ⟨b1, 0, none⟩ = some v10) (c11 : w1.cell? ⟨b1, 1, none⟩ = some v11) (c12 : w1.cell? ⟨b1, 2, none⟩ = some v12) (c13 : w1.cell? ⟨b1, 3, none⟩ = some v13) (c14 : w1.cell? ⟨b1, 4, none⟩ = some v14) (c15 : w1.cell? ⟨b1, 5, none⟩ = some v15) (c16 : w1.cell? ⟨b1, 6, none⟩ = some v16) (c20 : w1.cell? ⟨b2, 0, none⟩ = some v20) (c21 : w1.cell? ⟨b2, 1, none⟩ = some v21) (c22 : w1.cell? ⟨b2, 2, none⟩ = some v22) (c23 : w1.cell? ⟨b2, 3, none⟩ = some v23) (c24 : w1.cell? ⟨b2, 4, none⟩ = some v24) (c25 : w1.cell? ⟨b2, 5, none⟩ = some v25) (c26 : w1.cell? ⟨b2, 6, none⟩ = some v26) (l1 : b1 < w1.heap.size) (l2 : b2 < w1.heap.size) (hB : Below w.heap.size w w1) :
    w1.drew.cell? ⟨b1, 0, none⟩ = some v10 ∧ w1.drew.cell? ⟨b1, 1, none⟩ = some v11 ∧ w1.drew.cell? ⟨b1, 2, none⟩ = some v12 ∧ w1.drew.cell? ⟨b1, 3, none⟩ = some v13 ∧ w1.drew.cell? ⟨b1, 4, none⟩ = some v14 ∧ w1.drew.cell? ⟨b1, 5, none⟩ = some v15 ∧ w1.drew.cell? ⟨b1, 6, none⟩ = some v16 ∧ w1.drew.cell? ⟨b2, 0, none⟩ = some v20 ∧ w1.drew.cell? ⟨b2, 1, none⟩ = some v21 ∧ w1.drew.cell? ⟨b2, 2, none⟩ = some v22 ∧ w1.drew.cell? ⟨b2, 3, none⟩ = some v23 ∧ w1.drew.cell? ⟨b2, 4, none⟩ = some v24 ∧ w1.drew.cell? ⟨b2, 5, none⟩ = some v25 ∧ w1.drew.cell? ⟨b2, 6, none⟩ = some v26 ∧ b1 < w1.drew.heap.size ∧ b2 < w1.drew.heap.size ∧ Below w.heap.size w w1.drew :=
  ⟨c10, c11, c12, c13, c14, c15, c16, c20, c21, c22, c23, c24, c25, c26, l1, l2, ⟨hB.os, hB.tape, hB.output, hB.size, hB.block⟩⟩

theorem held77_call {w w1 w2 : World} {b1 b2 : Nat} {v10 v11 v12 v13 v14 v15 v16 v20 v21 v22 v23 v24 v25 v26 : Value} (g : Below w1.heap.size w1 w2) (c10 : w1.cell? ⟨b1, 0, none⟩ = some v10) (c11 : w1.cell? ⟨b1, 1, none⟩ = some v11) (c12 : w1.cell? ⟨b1, 2, none⟩ = some v12) (c13 : w1.cell? ⟨b1, 3, none⟩ = some v13) (c14 : w1.cell? ⟨b1, 4, none⟩ = some v14) (c15 : w1.cell? ⟨b1, 5, none⟩ = some v15) (c16 : w1.cell? ⟨b1, 6, none⟩ = some v16) (c20 : w1.cell? ⟨b2, 0, none⟩ = some v20) (c21 : w1.cell? ⟨b2, 1, none⟩ = some v21) (c22 : w1.cell? ⟨b2, 2, none⟩ = some v22) (c23 : w1.cell? ⟨b2, 3, none⟩ = some v23) (c24 : w1.cell? ⟨b2, 4, none⟩ = some v24) (c25 : w1.cell? ⟨b2, 5, none⟩ = some v25) (c26 : w1.cell? ⟨b2, 6, none⟩ = some v26) (l1 : b1 < w1.heap.size) (l2 : b2 < w1.heap.size) (hB : Below w.heap.size w w1) :
    w2.cell? ⟨b1, 0, none⟩ = some v10 ∧ w2.cell? ⟨b1, 1, none⟩ = some v11 ∧ w2.cell? ⟨b1, 2, none⟩ = some v12 ∧ w2.cell? ⟨b1, 3, none⟩ = some v13 ∧ w2.cell? ⟨b1, 4, none⟩ = some v14 ∧ w2.cell? ⟨b1, 5, none⟩ = some v15 ∧ w2.cell? ⟨b1, 6, none⟩ = some v16 ∧ w2.cell? ⟨b2, 0, none⟩ = some v20 ∧ w2.cell? ⟨b2, 1, none⟩ = some v21 ∧ w2.cell? ⟨b2, 2, none⟩ = some v22 ∧ w2.cell? ⟨b2, 3, none⟩ = some v23 ∧ w2.cell? ⟨b2, 4, none⟩ = some v24 ∧ w2.cell? ⟨b2, 5, none⟩ = some v25 ∧ w2.cell? ⟨b2, 6, none⟩ = some v26 ∧ b1 < w2.heap.size ∧ b2 < w2.heap.size ∧ Below w.heap.size w w2 :=
  ⟨(g.cell (p := ⟨b1, 0, none⟩) l1).trans c10, (g.cell (p := ⟨b1, 1, none⟩) l1).trans c11, (g.cell (p := ⟨b1, 2, none⟩) l1).trans c12, (g.cell (p := ⟨b1, 3, none⟩) l1).trans c13, (g.cell (p := ⟨b1, 4, none⟩) l1).trans c14, (g.cell (p := ⟨b1, 5, none⟩) l1).trans c15, (g.cell (p := ⟨b1, 6, none⟩) l1).trans c16, (g.cell (p := ⟨b2, 0, none⟩) l2).trans c20, (g.cell (p := ⟨b2, 1, none⟩) l2).trans c21, (g.cell (p := ⟨b2, 2, none⟩) l2).trans c22, (g.cell (p := ⟨b2, 3, none⟩) l2).trans c23, (g.cell (p := ⟨b2, 4, none⟩) l2).trans c24, (g.cell (p := ⟨b2, 5, none⟩) l2).trans c25, (g.cell (p := ⟨b2, 6, none⟩) l2).trans c26, Nat.lt_of_lt_of_le l1 g.size, Nat.lt_of_lt_of_le l2 g.size, hB.trans (g.mono hB.size)⟩

theorem held77_new (w : World) (v10 v11 v12 v13 v14 v15 v16 v20 v21 v22 v23 v24 v25 v26 : Value) (t : TypeId) :
    ((w.alloc (.cells #[v10, v11, v12, v13, v14, v15, v16] t)).alloc (.cells #[v20, v21, v22, v23, v24, v25, v26] t)).cell? ⟨w.heap.size, 0, none⟩ = some v10 ∧ ((w.alloc (.cells #[v10, v11, v12, v13, v14, v15, v16] t)).alloc (.cells #[v20, v21, v22, v23, v24, v25, v26] t)).cell? ⟨w.heap.size, 1, none⟩ = some v11 ∧ ((w.alloc (.cells #[v10, v11, v12, v13, v14, v15, v16] t)).alloc (.cells #[v20, v21, v22, v23, v24, v25, v26] t)).cell? ⟨w.heap.size, 2, none⟩ = some v12 ∧ ((w.alloc (.cells #[v10, v11, v12, v13, v14, v15, v16] t)).alloc (.cells #[v20, v21, v22, v23, v24, v25, v26] t)).cell? ⟨w.heap.size, 3, none⟩ = some v13 ∧ ((w.alloc (.cells #[v10, v11, v12, v13, v14, v15, v16] t)).alloc (.cells #[v20, v21, v22, v23, v24, v25, v26] t)).cell? ⟨w.heap.size, 4, none⟩ = some v14 ∧ ((w.alloc (.cells #[v10, v11, v12, v13, v14, v15, v16] t)).alloc (.cells #[v20, v21, v22, v23, v24, v25, v26] t)).cell? ⟨w.heap.size, 5, none⟩ = some v15 ∧ ((w.alloc (.cells #[v10, v11, v12, v13, v14, v15, v16] t)).alloc (.cells #[v20, v21, v22, v23, v24, v25, v26] t)).cell? ⟨w.heap.size, 6, none⟩ = some v16 ∧ ((w.alloc (.cells #[v10, v11, v12, v13, v14, v15, v16] t)).alloc (.cells #[v20, v21, v22, v23, v24, v25, v26] t)).cell? ⟨w.heap.size + 1, 0, none⟩ = some v20 ∧ ((w.alloc (.cells #[v10, v11, v12, v13, v14, v15, v16] t)).alloc (.cells #[v20, v21, v22, v23, v24, v25, v26] t)).cell? ⟨w.heap.size + 1, 1, none⟩ = some v21 ∧ ((w.alloc (.cells #[v10, v11, v12, v13, v14, v15, v16] t)).alloc (.cells #[v20, v21, v22, v23, v24, v25, v26] t)).cell? ⟨w.heap.size + 1, 2, none⟩ = some v22 ∧ ((w.alloc (.cells #[v10, v11, v12, v13, v14, v15, v16] t)).alloc (.cells #[v20, v21, v22, v23, v24, v25, v26] t)).cell? ⟨w.heap.size + 1, 3, none⟩ = some v23 ∧ ((w.alloc (.cells #[v10, v11, v12, v13, v14, v15, v16] t)).alloc (.cells #[v20, v21, v22, v23, v24, v25, v26] t)).cell? ⟨w.heap.size + 1, 4, none⟩ = some v24 ∧ ((w.alloc (.cells #[v10, v11, v12, v13, v14, v15, v16] t)).alloc (.cells #[v20, v21, v22, v23, v24, v25, v26] t)).cell? ⟨w.heap.size + 1, 5, none⟩ = some v25 ∧ ((w.alloc (.cells #[v10, v11, v12, v13, v14, v15, v16] t)).alloc (.cells #[v20, v21, v22, v23, v24, v25, v26] t)).cell? ⟨w.heap.size + 1, 6, none⟩ = some v26 ∧ w.heap.size < ((w.alloc (.cells #[v10, v11, v12, v13, v14, v15, v16] t)).alloc (.cells #[v20, v21, v22, v23, v24, v25, v26] t)).heap.size ∧ w.heap.size + 1 < ((w.alloc (.cells #[v10, v11, v12, v13, v14, v15, v16] t)).alloc (.cells #[v20, v21, v22, v23, v24, v25, v26] t)).heap.size ∧ Below w.heap.size w ((w.alloc (.cells #[v10, v11, v12, v13, v14, v15, v16] t)).alloc (.cells #[v20, v21, v22, v23, v24, v25, v26] t)) :=
  ⟨by simp, by simp, by simp, by simp, by simp, by simp, by simp, by simp, by simp, by simp, by simp, by simp, by simp, by simp, by simp; omega, by simp, ((Below.refl _ _).alloc (Nat.le_refl _) _).alloc (by simp) _⟩

theorem hexs_ext (q : Nat) (h : q < 16) : (ByteArray.mk #[48, 49, 50, 51, 52, 53, 54, 55, 56, 57, 97, 98, 99, 100, 101, 102]).extract q (q + 1) = ⟨#[hexD q]⟩ := by
  have : q = 0 ∨ q = 1 ∨ q = 2 ∨ q = 3 ∨ q = 4 ∨ q = 5 ∨ q = 6 ∨ q = 7 ∨ q = 8 ∨ q = 9 ∨ q = 10 ∨ q = 11 ∨ q = 12 ∨ q = 13 ∨ q = 14 ∨ q = 15 := by omega
  rcases this with rfl | rfl | rfl | rfl | rfl | rfl | rfl | rfl | rfl | rfl | rfl | rfl | rfl | rfl | rfl | rfl <;> rfl

end Go.Proofs.YtgaggpnlimchkaaGreatDoor.B6

namespace Go.Proofs.YtgaggpnlimchkaaGreatDoor.B6
open Go.Proofs.YtgaggpnlimchkaaGreatDoor.P1 Go.Proofs.YtgaggpnlimchkaaGreatDoor.B1 Go.Proofs.YtgaggpnlimchkaaGreatDoor.B2 Go.Proofs.YtgaggpnlimchkaaGreatDoor.T1 Go.Proofs.YtgaggpnlimchkaaGreatDoor.BT Go.Proofs.YtgaggpnlimchkaaGreatDoor.P5 Go.Proofs.YtgaggpnlimchkaaGreatDoor.P6 Go.Proofs.YtgaggpnlimchkaaGreatDoor.B5
open Go.ChangeShapes Go.WideShapes Go.ChangeAt Go.RowKit
set_option linter.unusedVariables false

theorem quiet_same {P : Program} {f : FuncId} {args : Array Value} {w : World} {n : Nat} {v : Value}
    (h : Calls P f args (w.drewN n) fun e w' => e = .returned v ∧ w.drewN n = w') : Calls P f args (w.drewN n) fun e w'' => e = .returned v ∧ ∃ m, w'' = w.drewN m :=
  h.mono fun _ _ ⟨he, hm⟩ => ⟨he, n, hm.symm⟩

def sameKind (x y : Va) : Bool := valueOk x && valueOk y && x.k == y.k

theorem digOf_range {b : UInt8} (h : isHex b = true) : 0 ≤ digOf b ∧ digOf b ≤ 15 := by
  simp only [isHex, isDigit, Bool.or_eq_true, Bool.and_eq_true, decide_eq_true_eq] at h
  unfold digOf
  split <;> omega

theorem byteOf_at {l : List UInt8} {i : Nat} {x y : UInt8} (hx : l[i]? = some x) (hy : l[i + 1]? = some y) : P6.byteOf l i = 16 * digOf x + digOf y := by
  unfold P6.byteOf
  rw [List.getD_eq_getElem?_getD, List.getD_eq_getElem?_getD, hx, hy]; rfl

end Go.Proofs.YtgaggpnlimchkaaGreatDoor.B6
