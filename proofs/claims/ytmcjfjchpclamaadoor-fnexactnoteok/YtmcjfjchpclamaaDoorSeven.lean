/- Blocks of seven cells of the call's own: read and written. -/
import Derived.Test.YtmcjfjchpclamaaDoorLot
namespace Go.Proofs.YtmcjfjchpclamaaDoor.S7
open Go.Proofs.YtmcjfjchpclamaaDoor.P1 Go.Proofs.YtmcjfjchpclamaaDoor.B1 Go.Proofs.YtmcjfjchpclamaaDoor.P2 Go.Proofs.YtmcjfjchpclamaaDoor.B2 Go.Proofs.YtmcjfjchpclamaaDoor.D1
open Go.ChangeShapes Go.WideShapes Go.ChangeAt Go.RowKit
set_option linter.unusedVariables false

/-- The cells of a local block of seven numbers, one by one. -/
theorem seven_cells {w : World} {b : Nat} {v0 v1 v2 v3 v4 v5 v6 : Value} (h : LBlk w b [v0, v1, v2, v3, v4, v5, v6]) :
    w.cell? ⟨b, 0, none⟩ = some v0 ∧ w.cell? ⟨b, 1, none⟩ = some v1 ∧ w.cell? ⟨b, 2, none⟩ = some v2 ∧ w.cell? ⟨b, 3, none⟩ = some v3 ∧ w.cell? ⟨b, 4, none⟩ = some v4 ∧ w.cell? ⟨b, 5, none⟩ = some v5 ∧ w.cell? ⟨b, 6, none⟩ = some v6 ∧
    w.frozen? ⟨b, 0, none⟩ = false ∧ w.frozen? ⟨b, 1, none⟩ = false ∧ w.frozen? ⟨b, 2, none⟩ = false ∧ w.frozen? ⟨b, 3, none⟩ = false ∧ w.frozen? ⟨b, 4, none⟩ = false ∧ w.frozen? ⟨b, 5, none⟩ = false ∧ w.frozen? ⟨b, 6, none⟩ = false :=
  ⟨(h.2 0 _ rfl).1, (h.2 1 _ rfl).1, (h.2 2 _ rfl).1, (h.2 3 _ rfl).1, (h.2 4 _ rfl).1, (h.2 5 _ rfl).1, (h.2 6 _ rfl).1, (h.2 0 _ rfl).2, (h.2 1 _ rfl).2, (h.2 2 _ rfl).2, (h.2 3 _ rfl).2, (h.2 4 _ rfl).2, (h.2 5 _ rfl).2, (h.2 6 _ rfl).2⟩

/-- Seven cells of a block written one after the other. -/
def put7 (w : World) (b : Nat) (v0 v1 v2 v3 v4 v5 v6 : Value) : World := (((((((w.setCell ⟨b, 0, none⟩ v0).setCell ⟨b, 1, none⟩ v1).setCell ⟨b, 2, none⟩ v2).setCell ⟨b, 3, none⟩ v3).setCell ⟨b, 4, none⟩ v4).setCell ⟨b, 5, none⟩ v5).setCell ⟨b, 6, none⟩ v6)

theorem put7_blk {w : World} {b : Nat} {u0 u1 u2 u3 u4 u5 u6 : Value} (h : LBlk w b [u0, u1, u2, u3, u4, u5, u6]) (v0 v1 v2 v3 v4 v5 v6 : Value) : LBlk (put7 w b v0 v1 v2 v3 v4 v5 v6) b [v0, v1, v2, v3, v4, v5, v6] :=
  ((((((h.set 0 v0 (by simp)).set 1 v1 (by simp)).set 2 v2 (by simp)).set 3 v3 (by simp)).set 4 v4 (by simp)).set 5 v5 (by simp)).set 6 v6 (by simp)

theorem put7_other {w : World} {b c : Nat} {vs : List Value} (h : LBlk w c vs) (hc : c ≠ b) (v0 v1 v2 v3 v4 v5 v6 : Value) : LBlk (put7 w b v0 v1 v2 v3 v4 v5 v6) c vs :=
  ((((((h.set_other hc 0 v0).set_other hc 1 v1).set_other hc 2 v2).set_other hc 3 v3).set_other hc 4 v4).set_other hc 5 v5).set_other hc 6 v6

theorem put7_below {B : Nat} {a w : World} {b : Nat} (h : Below B a w) (hb : B ≤ b) (v0 v1 v2 v3 v4 v5 v6 : Value) : Below B a (put7 w b v0 v1 v2 v3 v4 v5 v6) :=
  ((((((h.setCell hb v0).setCell hb v1).setCell hb v2).setCell hb v3).setCell hb v4).setCell hb v5).setCell hb v6

theorem put7_cell {w : World} {b : Nat} {p : Addr} (hp : p.block ≠ b) (v0 v1 v2 v3 v4 v5 v6 : Value) : (put7 w b v0 v1 v2 v3 v4 v5 v6).cell? p = w.cell? p := by
  have h (w : World) (o : Nat) (v : Value) : (w.setCell ⟨b, o, none⟩ v).cell? p = w.cell? p := World.cell?_setCell_other _ _ _ _ (by intro e; exact hp (by rw [← e]))
  unfold put7
  rw [h, h, h, h, h, h, h]

theorem put7_size (w : World) (b : Nat) (v0 v1 v2 v3 v4 v5 v6 : Value) : (put7 w b v0 v1 v2 v3 v4 v5 v6).heap.size = w.heap.size := by
  simp [put7, World.setCell]

theorem cells2_put {w : World} {b c : Nat} {u0 u1 : Value} (hc : c ≠ b) (t0 : w.cell? ⟨c, 0, none⟩ = some u0) (t1 : w.cell? ⟨c, 1, none⟩ = some u1) (hl : c < w.heap.size) (v0 v1 v2 v3 v4 v5 v6 : Value) :
    (put7 w b v0 v1 v2 v3 v4 v5 v6).cell? ⟨c, 0, none⟩ = some u0 ∧ (put7 w b v0 v1 v2 v3 v4 v5 v6).cell? ⟨c, 1, none⟩ = some u1 ∧ c < (put7 w b v0 v1 v2 v3 v4 v5 v6).heap.size :=
  ⟨(put7_cell (p := ⟨c, 0, none⟩) hc _ _ _ _ _ _ _).trans t0, (put7_cell (p := ⟨c, 1, none⟩) hc _ _ _ _ _ _ _).trans t1, by rw [put7_size]; exact hl⟩

theorem cells2_call {w w2 : World} {c : Nat} {u0 u1 : Value} (g : Below w.heap.size w w2) (t0 : w.cell? ⟨c, 0, none⟩ = some u0) (t1 : w.cell? ⟨c, 1, none⟩ = some u1) (hl : c < w.heap.size) :
    w2.cell? ⟨c, 0, none⟩ = some u0 ∧ w2.cell? ⟨c, 1, none⟩ = some u1 ∧ c < w2.heap.size :=
  ⟨(g.cell (p := ⟨c, 0, none⟩) hl).trans t0, (g.cell (p := ⟨c, 1, none⟩) hl).trans t1, Nat.lt_of_lt_of_le hl g.size⟩

end Go.Proofs.YtmcjfjchpclamaaDoor.S7
