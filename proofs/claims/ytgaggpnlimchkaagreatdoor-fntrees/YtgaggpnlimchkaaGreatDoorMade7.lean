/- Two values kept where a third one is made and stored. -/
import Derived.Test.YtgaggpnlimchkaaGreatDoorBase6b
import Derived.Test.YtgaggpnlimchkaaGreatDoorFound
namespace Go.Proofs.YtgaggpnlimchkaaGreatDoor.B6
open Go.Proofs.YtgaggpnlimchkaaGreatDoor.P1 Go.Proofs.YtgaggpnlimchkaaGreatDoor.B1 Go.Proofs.YtgaggpnlimchkaaGreatDoor.B2 Go.Proofs.YtgaggpnlimchkaaGreatDoor.S7 Go.Proofs.YtgaggpnlimchkaaGreatDoor.D1
open Go.ChangeShapes Go.WideShapes Go.ChangeAt Go.RowKit
set_option linter.unusedVariables false

theorem held77_made {w w5 : World} {b1 b2 : Nat} {v10 v11 v12 v13 v14 v15 v16 v20 v21 v22 v23 v24 v25 v26 : Value} (o : Obj) (u0 u1 u2 u3 u4 u5 u6 : Value) (c10 : w5.cell? ⟨b1, 0, none⟩ = some v10) (c11 : w5.cell? ⟨b1, 1, none⟩ = some v11) (c12 : w5.cell? ⟨b1, 2, none⟩ = some v12) (c13 : w5.cell? ⟨b1, 3, none⟩ = some v13) (c14 : w5.cell? ⟨b1, 4, none⟩ = some v14) (c15 : w5.cell? ⟨b1, 5, none⟩ = some v15) (c16 : w5.cell? ⟨b1, 6, none⟩ = some v16) (c20 : w5.cell? ⟨b2, 0, none⟩ = some v20) (c21 : w5.cell? ⟨b2, 1, none⟩ = some v21) (c22 : w5.cell? ⟨b2, 2, none⟩ = some v22) (c23 : w5.cell? ⟨b2, 3, none⟩ = some v23) (c24 : w5.cell? ⟨b2, 4, none⟩ = some v24) (c25 : w5.cell? ⟨b2, 5, none⟩ = some v25) (c26 : w5.cell? ⟨b2, 6, none⟩ = some v26) (l1 : b1 < w5.heap.size) (l2 : b2 < w5.heap.size) (hB : Below w.heap.size w w5) :
    ((((((((w5.alloc o).setCell ⟨w5.heap.size, 0, none⟩ u0).setCell ⟨w5.heap.size, 1, none⟩ u1).setCell ⟨w5.heap.size, 2, none⟩ u2).setCell ⟨w5.heap.size, 3, none⟩ u3).setCell ⟨w5.heap.size, 4, none⟩ u4).setCell ⟨w5.heap.size, 5, none⟩ u5).setCell ⟨w5.heap.size, 6, none⟩ u6).cell? ⟨b1, 0, none⟩ = some v10 ∧ ((((((((w5.alloc o).setCell ⟨w5.heap.size, 0, none⟩ u0).setCell ⟨w5.heap.size, 1, none⟩ u1).setCell ⟨w5.heap.size, 2, none⟩ u2).setCell ⟨w5.heap.size, 3, none⟩ u3).setCell ⟨w5.heap.size, 4, none⟩ u4).setCell ⟨w5.heap.size, 5, none⟩ u5).setCell ⟨w5.heap.size, 6, none⟩ u6).cell? ⟨b1, 1, none⟩ = some v11 ∧ ((((((((w5.alloc o).setCell ⟨w5.heap.size, 0, none⟩ u0).setCell ⟨w5.heap.size, 1, none⟩ u1).setCell ⟨w5.heap.size, 2, none⟩ u2).setCell ⟨w5.heap.size, 3, none⟩ u3).setCell ⟨w5.heap.size, 4, none⟩ u4).setCell ⟨w5.heap.size, 5, none⟩ u5).setCell ⟨w5.heap.size, 6, none⟩ u6).cell? ⟨b1, 2, none⟩ = some v12 ∧ ((((((((w5.alloc o).setCell ⟨w5.heap.size, 0, none⟩ u0).setCell ⟨w5.heap.size, 1, none⟩ u1).setCell ⟨w5.heap.size, 2, none⟩ u2).setCell ⟨w5.heap.size, 3, none⟩ u3).setCell ⟨w5.heap.size, 4, none⟩ u4).setCell ⟨w5.heap.size, 5, none⟩ u5).setCell ⟨w5.heap.size, 6, none⟩ u6).cell? ⟨b1, 3, none⟩ = some v13 ∧ ((((((((w5.alloc o).setCell ⟨w5.heap.size, 0, none⟩ u0).setCell ⟨w5.heap.size, 1, none⟩ u1).setCell ⟨w5.heap.size, 2, none⟩ u2).setCell ⟨w5.heap.size, 3, none⟩ u3).setCell ⟨w5.heap.size, 4, none⟩ u4).setCell ⟨w5.heap.size, 5, none⟩ u5).setCell ⟨w5.heap.size, 6, none⟩ u6).cell? ⟨b1, 4, none⟩ = some v14 ∧ ((((((((w5.alloc o).setCell ⟨w5.heap.size, 0, none⟩ u0).setCell ⟨w5.heap.size, 1, none⟩ u1).setCell ⟨w5.heap.size, 2, none⟩ u2).setCell ⟨w5.heap.size, 3, none⟩ u3).setCell ⟨w5.heap.size, 4, none⟩ u4).setCell ⟨w5.heap.size, 5, none⟩ u5).setCell ⟨w5.heap.size, 6, none⟩ u6).cell? ⟨b1, 5, none⟩ = some v15 ∧ ((((((((w5.alloc o).setCell ⟨w5.heap.size, 0, none⟩ u0).setCell ⟨w5.heap.size, 1, none⟩ u1).setCell ⟨w5.heap.size, 2, none⟩ u2).setCell ⟨w5.heap.size, 3, none⟩ u3).setCell ⟨w5.heap.size, 4, none⟩ u4).setCell ⟨w5.heap.size, 5, none⟩ u5).setCell ⟨w5.heap.size, 6, none⟩ u6).cell? ⟨b1, 6, none⟩ = some v16 ∧ ((((((((w5.alloc o).setCell ⟨w5.heap.size, 0, none⟩ u0).setCell ⟨w5.heap.size, 1, none⟩ u1).setCell ⟨w5.heap.size, 2, none⟩ u2).setCell ⟨w5.heap.size, 3, none⟩ u3).setCell ⟨w5.heap.size, 4, none⟩ u4).setCell ⟨w5.heap.size, 5, none⟩ u5).setCell ⟨w5.heap.size, 6, none⟩ u6).cell? ⟨b2, 0, none⟩ = some v20 ∧ ((((((((w5.alloc o).setCell ⟨w5.heap.size, 0, none⟩ u0).setCell ⟨w5.heap.size, 1, none⟩ u1).setCell ⟨w5.heap.size, 2, none⟩ u2).setCell ⟨w5.heap.size, 3, none⟩ u3).setCell ⟨w5.heap.size, 4, none⟩ u4).setCell ⟨w5.heap.size, 5, none⟩ u5).setCell ⟨w5.heap.size, 6, none⟩ u6).cell? ⟨b2, 1, none⟩ = some v21 ∧ ((((((((w5.alloc o).setCell ⟨w5.heap.size, 0, none⟩ u0).setCell ⟨w5.heap.size, 1, none⟩ u1).setCell ⟨w5.heap.size, 2, none⟩ u2).setCell ⟨w5.heap.size, 3, none⟩ u3).setCell ⟨w5.heap.size, 4, none⟩ u4).setCell ⟨w5.heap.size, 5, none⟩ u5).setCell ⟨w5.heap.size, 6, none⟩ u6).cell? ⟨b2, 2, none⟩ = some v22 ∧ ((((((((w5.alloc o).setCell ⟨w5.heap.size, 0, none⟩ u0).setCell ⟨w5.heap.size, 1, none⟩ u1).setCell ⟨w5.heap.size, 2, none⟩ u2).setCell ⟨w5.heap.size, 3, none⟩ u3).setCell ⟨w5.heap.size, 4, none⟩ u4).setCell ⟨w5.heap.size, 5, none⟩ u5).setCell ⟨w5.heap.size, 6, none⟩ u6).cell? ⟨b2, 3, none⟩ = some v23 ∧ ((((((((w5.alloc o).setCell ⟨w5.heap.size, 0, none⟩ u0).setCell ⟨w5.heap.size, 1, none⟩ u1).setCell ⟨w5.heap.size, 2, none⟩ u2).setCell ⟨w5.heap.size, 3, none⟩ u3).setCell ⟨w5.heap.size, 4, none⟩ u4).setCell ⟨w5.heap.size, 5, none⟩ u5).setCell ⟨w5.heap.size, 6, none⟩ u6).cell? ⟨b2, 4, none⟩ = some v24 ∧ ((((((((w5.alloc o).setCell ⟨w5.heap.size, 0, none⟩ u0).setCell ⟨w5.heap.size, 1, none⟩ u1).setCell ⟨w5.heap.size, 2, none⟩ u2).setCell ⟨w5.heap.size, 3, none⟩ u3).setCell ⟨w5.heap.size, 4, none⟩ u4).setCell ⟨w5.heap.size, 5, none⟩ u5).setCell ⟨w5.heap.size, 6, none⟩ u6).cell? ⟨b2, 5, none⟩ = some v25 ∧ ((((((((w5.alloc o).setCell ⟨w5.heap.size, 0, none⟩ u0).setCell ⟨w5.heap.size, 1, none⟩ u1).setCell ⟨w5.heap.size, 2, none⟩ u2).setCell ⟨w5.heap.size, 3, none⟩ u3).setCell ⟨w5.heap.size, 4, none⟩ u4).setCell ⟨w5.heap.size, 5, none⟩ u5).setCell ⟨w5.heap.size, 6, none⟩ u6).cell? ⟨b2, 6, none⟩ = some v26 ∧ b1 < ((((((((w5.alloc o).setCell ⟨w5.heap.size, 0, none⟩ u0).setCell ⟨w5.heap.size, 1, none⟩ u1).setCell ⟨w5.heap.size, 2, none⟩ u2).setCell ⟨w5.heap.size, 3, none⟩ u3).setCell ⟨w5.heap.size, 4, none⟩ u4).setCell ⟨w5.heap.size, 5, none⟩ u5).setCell ⟨w5.heap.size, 6, none⟩ u6).heap.size ∧ b2 < ((((((((w5.alloc o).setCell ⟨w5.heap.size, 0, none⟩ u0).setCell ⟨w5.heap.size, 1, none⟩ u1).setCell ⟨w5.heap.size, 2, none⟩ u2).setCell ⟨w5.heap.size, 3, none⟩ u3).setCell ⟨w5.heap.size, 4, none⟩ u4).setCell ⟨w5.heap.size, 5, none⟩ u5).setCell ⟨w5.heap.size, 6, none⟩ u6).heap.size ∧ Below w.heap.size w ((((((((w5.alloc o).setCell ⟨w5.heap.size, 0, none⟩ u0).setCell ⟨w5.heap.size, 1, none⟩ u1).setCell ⟨w5.heap.size, 2, none⟩ u2).setCell ⟨w5.heap.size, 3, none⟩ u3).setCell ⟨w5.heap.size, 4, none⟩ u4).setCell ⟨w5.heap.size, 5, none⟩ u5).setCell ⟨w5.heap.size, 6, none⟩ u6) := by
  have g : ∀ b, b < w5.heap.size → ∀ i v, w5.cell? ⟨b, i, none⟩ = some v → (put7 (w5.alloc o) w5.heap.size u0 u1 u2 u3 u4 u5 u6).cell? ⟨b, i, none⟩ = some v := fun b hb i v hv => by
    rw [put7_cell (p := ⟨b, i, none⟩) (show b ≠ w5.heap.size by omega)]
    exact (((Below.refl w5.heap.size w5).alloc (Nat.le_refl _) o).cell (p := ⟨b, i, none⟩) hb).trans hv
  have s : ∀ b, b < w5.heap.size → b < (put7 (w5.alloc o) w5.heap.size u0 u1 u2 u3 u4 u5 u6).heap.size := fun b hb => by
    rw [put7_size, World.size_alloc]; omega
  exact ⟨g b1 l1 0 _ c10, g b1 l1 1 _ c11, g b1 l1 2 _ c12, g b1 l1 3 _ c13, g b1 l1 4 _ c14, g b1 l1 5 _ c15, g b1 l1 6 _ c16, g b2 l2 0 _ c20, g b2 l2 1 _ c21, g b2 l2 2 _ c22, g b2 l2 3 _ c23, g b2 l2 4 _ c24, g b2 l2 5 _ c25, g b2 l2 6 _ c26, s b1 l1, s b2 l2, put7_below (hB.alloc hB.size o) hB.size u0 u1 u2 u3 u4 u5 u6⟩

theorem held77_box {w w5 : World} {b1 b2 : Nat} {v10 v11 v12 v13 v14 v15 v16 v20 v21 v22 v23 v24 v25 v26 : Value} (o : Obj) (c10 : w5.cell? ⟨b1, 0, none⟩ = some v10) (c11 : w5.cell? ⟨b1, 1, none⟩ = some v11) (c12 : w5.cell? ⟨b1, 2, none⟩ = some v12) (c13 : w5.cell? ⟨b1, 3, none⟩ = some v13) (c14 : w5.cell? ⟨b1, 4, none⟩ = some v14) (c15 : w5.cell? ⟨b1, 5, none⟩ = some v15) (c16 : w5.cell? ⟨b1, 6, none⟩ = some v16) (c20 : w5.cell? ⟨b2, 0, none⟩ = some v20) (c21 : w5.cell? ⟨b2, 1, none⟩ = some v21) (c22 : w5.cell? ⟨b2, 2, none⟩ = some v22) (c23 : w5.cell? ⟨b2, 3, none⟩ = some v23) (c24 : w5.cell? ⟨b2, 4, none⟩ = some v24) (c25 : w5.cell? ⟨b2, 5, none⟩ = some v25) (c26 : w5.cell? ⟨b2, 6, none⟩ = some v26) (l1 : b1 < w5.heap.size) (l2 : b2 < w5.heap.size) (hB : Below w.heap.size w w5) :
    (w5.alloc o).cell? ⟨b1, 0, none⟩ = some v10 ∧ (w5.alloc o).cell? ⟨b1, 1, none⟩ = some v11 ∧ (w5.alloc o).cell? ⟨b1, 2, none⟩ = some v12 ∧ (w5.alloc o).cell? ⟨b1, 3, none⟩ = some v13 ∧ (w5.alloc o).cell? ⟨b1, 4, none⟩ = some v14 ∧ (w5.alloc o).cell? ⟨b1, 5, none⟩ = some v15 ∧ (w5.alloc o).cell? ⟨b1, 6, none⟩ = some v16 ∧ (w5.alloc o).cell? ⟨b2, 0, none⟩ = some v20 ∧ (w5.alloc o).cell? ⟨b2, 1, none⟩ = some v21 ∧ (w5.alloc o).cell? ⟨b2, 2, none⟩ = some v22 ∧ (w5.alloc o).cell? ⟨b2, 3, none⟩ = some v23 ∧ (w5.alloc o).cell? ⟨b2, 4, none⟩ = some v24 ∧ (w5.alloc o).cell? ⟨b2, 5, none⟩ = some v25 ∧ (w5.alloc o).cell? ⟨b2, 6, none⟩ = some v26 ∧ b1 < (w5.alloc o).heap.size ∧ b2 < (w5.alloc o).heap.size ∧ Below w.heap.size w (w5.alloc o) :=
  held77_call ((Below.refl _ _).alloc (Nat.le_refl _) o) c10 c11 c12 c13 c14 c15 c16 c20 c21 c22 c23 c24 c25 c26 l1 l2 hB

/-- Two values of the call's own, wherever they lie. -/
structure Q7 (w w1 : World) (b1 b2 : Nat) (xs ys : List Value) : Prop where
  x : LBlk w1 b1 xs
  y : LBlk w1 b2 ys
  b : Below w.heap.size w w1

theorem Q7.two (w : World) (xs ys : List Value) (t : TypeId) : Q7 w ((w.alloc (.cells xs.toArray t)).alloc (.cells ys.toArray t)) w.heap.size (w.heap.size + 1) xs ys := by
  refine ⟨(LBlk.new w xs t).alloc _, ?_, ((Below.refl _ _).alloc (Nat.le_refl _) _).alloc (by simp) _⟩
  have := LBlk.new (w.alloc (.cells xs.toArray t)) ys t
  rwa [World.size_alloc] at this

theorem Q7.call {w w1 w2 : World} {b1 b2 : Nat} {xs ys : List Value} (h : Q7 w w1 b1 b2 xs ys) (g : Below w1.heap.size w1 w2) : Q7 w w2 b1 b2 xs ys := ⟨h.x.below g, h.y.below g, h.b.trans (g.mono h.b.size)⟩

theorem Q7.alloc {w w1 : World} {b1 b2 : Nat} {xs ys : List Value} (h : Q7 w w1 b1 b2 xs ys) (o : Obj) : Q7 w (w1.alloc o) b1 b2 xs ys := ⟨h.x.alloc o, h.y.alloc o, h.b.alloc h.b.size o⟩

theorem Q7.drew {w w1 : World} {b1 b2 : Nat} {xs ys : List Value} (h : Q7 w w1 b1 b2 xs ys) : Q7 w w1.drew b1 b2 xs ys := ⟨h.x, h.y, ⟨h.b.os, h.b.tape, h.b.output, h.b.size, h.b.block⟩⟩

/-- The same, with a third block beside them. -/
structure QZ (w w1 : World) (b1 b2 bz : Nat) (xs ys zs : List Value) : Prop where
  q : Q7 w w1 b1 b2 xs ys
  z : LBlk w1 bz zs
  n1 : b1 ≠ bz
  n2 : b2 ≠ bz
  le : w.heap.size ≤ bz

theorem QZ.new {w wp : World} {b1 b2 : Nat} {xs ys : List Value} (h : Q7 w wp b1 b2 xs ys) (zs : List Value) (t : TypeId) : QZ w (wp.alloc (.cells zs.toArray t)) b1 b2 wp.heap.size xs ys zs :=
  ⟨h.alloc _, LBlk.new wp zs t, Nat.ne_of_lt h.x.1, Nat.ne_of_lt h.y.1, h.b.size⟩

theorem QZ.call {w w1 w2 : World} {b1 b2 bz : Nat} {xs ys zs : List Value} (h : QZ w w1 b1 b2 bz xs ys zs) (g : Below w1.heap.size w1 w2) : QZ w w2 b1 b2 bz xs ys zs := ⟨h.q.call g, h.z.below g, h.n1, h.n2, h.le⟩

theorem QZ.drew {w w1 : World} {b1 b2 bz : Nat} {xs ys zs : List Value} (h : QZ w w1 b1 b2 bz xs ys zs) : QZ w w1.drew b1 b2 bz xs ys zs := ⟨h.q.drew, h.z, h.n1, h.n2, h.le⟩

theorem QZ.put {w w1 : World} {b1 b2 bz : Nat} {xs ys : List Value} {u0 u1 u2 u3 u4 u5 u6 : Value} (h : QZ w w1 b1 b2 bz xs ys [u0, u1, u2, u3, u4, u5, u6]) (v0 v1 v2 v3 v4 v5 v6 : Value) : QZ w (put7 w1 bz v0 v1 v2 v3 v4 v5 v6) b1 b2 bz xs ys [v0, v1, v2, v3, v4, v5, v6] :=
  ⟨⟨put7_other h.q.x h.n1 v0 v1 v2 v3 v4 v5 v6, put7_other h.q.y h.n2 v0 v1 v2 v3 v4 v5 v6, put7_below h.q.b h.le v0 v1 v2 v3 v4 v5 v6⟩, put7_blk h.z v0 v1 v2 v3 v4 v5 v6, h.n1, h.n2, h.le⟩

theorem QZ.chain {w w1 : World} {b1 b2 bz : Nat} {xs ys : List Value} {u0 u1 u2 u3 u4 u5 u6 : Value} (h : QZ w w1 b1 b2 bz xs ys [u0, u1, u2, u3, u4, u5, u6]) (v0 v1 v2 v3 v4 v5 v6 : Value) : QZ w (((((((w1.setCell ⟨bz, 0, none⟩ v0).setCell ⟨bz, 1, none⟩ v1).setCell ⟨bz, 2, none⟩ v2).setCell ⟨bz, 3, none⟩ v3).setCell ⟨bz, 4, none⟩ v4).setCell ⟨bz, 5, none⟩ v5).setCell ⟨bz, 6, none⟩ v6) b1 b2 bz xs ys [v0, v1, v2, v3, v4, v5, v6] := QZ.put h v0 v1 v2 v3 v4 v5 v6

/-- One value of the call's own. -/
structure Q1 (w w1 : World) (b : Nat) (xs : List Value) : Prop where
  x : LBlk w1 b xs
  b : Below w.heap.size w w1

theorem Q1.new {w w1 : World} (h : Below w.heap.size w w1) (xs : List Value) (t : TypeId) : Q1 w (w1.alloc (.cells xs.toArray t)) w1.heap.size xs := ⟨LBlk.new w1 xs t, h.alloc h.size _⟩

theorem Q1.call {w w1 w2 : World} {b : Nat} {xs : List Value} (h : Q1 w w1 b xs) (g : Below w1.heap.size w1 w2) : Q1 w w2 b xs := ⟨h.x.below g, h.b.trans (g.mono h.b.size)⟩

theorem Q1.drew {w w1 : World} {b : Nat} {xs : List Value} (h : Q1 w w1 b xs) : Q1 w w1.drew b xs := ⟨h.x, ⟨h.b.os, h.b.tape, h.b.output, h.b.size, h.b.block⟩⟩

/-- A second one beside it. -/
theorem Q1.two {w w1 : World} {b : Nat} {xs : List Value} (h : Q1 w w1 b xs) (ys : List Value) (t : TypeId) : Q7 w (w1.alloc (.cells ys.toArray t)) b w1.heap.size xs ys := ⟨h.x.alloc _, LBlk.new w1 ys t, h.b.alloc h.b.size _⟩

/-- A value's cells. -/
def cellsV (x : P6.Va) : List Value := [.int .i64 x.k, .int .i64 x.n, .int .i64 x.r, .int .i64 x.g, .int .i64 x.b, .int .i64 x.c, .string ⟨x.w.toArray⟩]

/-- Two values compared, as operations. -/
theorem eqV (x y : P6.Va) (w : World) : (Op.equalIn 10000 105 (valV x) (valV y)).run Tryz.prog w = .ok (P6.Va.same x y) w := eq_value _ _ _ _ _ _ _ _ _ _ _ _ _ _ w

theorem guardV (op : BinOp) (o1 o2 : Operand) (x y : P6.Va) (w : World) : (eqGuard op 105 o1 o2 (valV x) (valV y)).run Tryz.prog w = .ok () w := run_eqGuard_agg w op 105 o1 o2 _ _ Tryz.eqGuardType105

theorem neqV (x y : P6.Va) (w : World) : (binOp .neq 105 (valV x) (valV y)).run Tryz.prog w = .ok (.bool (!P6.Va.same x y)) w := by
  have h := eqV x y w
  unfold valV at h ⊢
  rw [run_neq_struct, h]
  rfl

theorem eqlV (x y : P6.Va) (w : World) : (binOp .eql 105 (valV x) (valV y)).run Tryz.prog w = .ok (.bool (P6.Va.same x y)) w := by
  have h := eqV x y w
  unfold valV at h ⊢
  rw [run_eql_struct, h]
  rfl

theorem same_self (x : P6.Va) : P6.Va.same x x = true := P6.Va.same_iff.2 rfl

end Go.Proofs.YtgaggpnlimchkaaGreatDoor.B6
