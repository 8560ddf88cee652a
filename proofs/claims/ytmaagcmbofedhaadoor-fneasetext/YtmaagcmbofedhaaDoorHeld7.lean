/- Seven cells kept: what the laws on eases lean on. -/
import Derived.Test.YtmaagcmbofedhaaDoorBase4e
namespace Go.Proofs.YtmaagcmbofedhaaDoor.B4
open Go.Proofs.YtmaagcmbofedhaaDoor.B2
open Go.ChangeShapes Go.WideShapes Go.ChangeAt Go.RowKit

theorem held7_drew {w w' : World} {b : Nat} {v0 v1 v2 v3 v4 v5 v6 : Value} (c0 : w'.cell? ⟨b, 0, none⟩ = some v0) (c1 : w'.cell? ⟨b, 1, none⟩ = some v1) (c2 : w'.cell? ⟨b, 2, none⟩ = some v2) (c3 : w'.cell? ⟨b, 3, none⟩ = some v3) (c4 : w'.cell? ⟨b, 4, none⟩ = some v4) (c5 : w'.cell? ⟨b, 5, none⟩ = some v5) (c6 : w'.cell? ⟨b, 6, none⟩ = some v6) (hl : b < w'.heap.size) (hB : Below w.heap.size w w') :
    w'.drew.cell? ⟨b, 0, none⟩ = some v0 ∧ w'.drew.cell? ⟨b, 1, none⟩ = some v1 ∧ w'.drew.cell? ⟨b, 2, none⟩ = some v2 ∧ w'.drew.cell? ⟨b, 3, none⟩ = some v3 ∧ w'.drew.cell? ⟨b, 4, none⟩ = some v4 ∧ w'.drew.cell? ⟨b, 5, none⟩ = some v5 ∧ w'.drew.cell? ⟨b, 6, none⟩ = some v6 ∧ b < w'.drew.heap.size ∧ Below w.heap.size w w'.drew :=
  ⟨c0, c1, c2, c3, c4, c5, c6, hl, ⟨hB.os, hB.tape, hB.output, hB.size, hB.block⟩⟩

theorem held7_call {w w' w2 : World} {b : Nat} {v0 v1 v2 v3 v4 v5 v6 : Value} (g : Below w'.heap.size w' w2) (c0 : w'.cell? ⟨b, 0, none⟩ = some v0) (c1 : w'.cell? ⟨b, 1, none⟩ = some v1) (c2 : w'.cell? ⟨b, 2, none⟩ = some v2) (c3 : w'.cell? ⟨b, 3, none⟩ = some v3) (c4 : w'.cell? ⟨b, 4, none⟩ = some v4) (c5 : w'.cell? ⟨b, 5, none⟩ = some v5) (c6 : w'.cell? ⟨b, 6, none⟩ = some v6) (hl : b < w'.heap.size) (hB : Below w.heap.size w w') :
    w2.cell? ⟨b, 0, none⟩ = some v0 ∧ w2.cell? ⟨b, 1, none⟩ = some v1 ∧ w2.cell? ⟨b, 2, none⟩ = some v2 ∧ w2.cell? ⟨b, 3, none⟩ = some v3 ∧ w2.cell? ⟨b, 4, none⟩ = some v4 ∧ w2.cell? ⟨b, 5, none⟩ = some v5 ∧ w2.cell? ⟨b, 6, none⟩ = some v6 ∧ b < w2.heap.size ∧ Below w.heap.size w w2 :=
  ⟨(g.cell (p := ⟨b, 0, none⟩) hl).trans c0, (g.cell (p := ⟨b, 1, none⟩) hl).trans c1, (g.cell (p := ⟨b, 2, none⟩) hl).trans c2, (g.cell (p := ⟨b, 3, none⟩) hl).trans c3, (g.cell (p := ⟨b, 4, none⟩) hl).trans c4, (g.cell (p := ⟨b, 5, none⟩) hl).trans c5, (g.cell (p := ⟨b, 6, none⟩) hl).trans c6, Nat.lt_of_lt_of_le hl g.size, hB.trans (g.mono hB.size)⟩

theorem seven_new {w w1 : World} (v0 v1 v2 v3 v4 v5 v6 : Value) (t : TypeId) (hb : Below w.heap.size w w1) :
    (w1.alloc (.cells #[v0, v1, v2, v3, v4, v5, v6] t)).cell? ⟨w1.heap.size, 0, none⟩ = some v0 ∧ (w1.alloc (.cells #[v0, v1, v2, v3, v4, v5, v6] t)).cell? ⟨w1.heap.size, 1, none⟩ = some v1 ∧ (w1.alloc (.cells #[v0, v1, v2, v3, v4, v5, v6] t)).cell? ⟨w1.heap.size, 2, none⟩ = some v2 ∧ (w1.alloc (.cells #[v0, v1, v2, v3, v4, v5, v6] t)).cell? ⟨w1.heap.size, 3, none⟩ = some v3 ∧ (w1.alloc (.cells #[v0, v1, v2, v3, v4, v5, v6] t)).cell? ⟨w1.heap.size, 4, none⟩ = some v4 ∧ (w1.alloc (.cells #[v0, v1, v2, v3, v4, v5, v6] t)).cell? ⟨w1.heap.size, 5, none⟩ = some v5 ∧ (w1.alloc (.cells #[v0, v1, v2, v3, v4, v5, v6] t)).cell? ⟨w1.heap.size, 6, none⟩ = some v6 ∧ w1.heap.size < (w1.alloc (.cells #[v0, v1, v2, v3, v4, v5, v6] t)).heap.size ∧ Below w.heap.size w (w1.alloc (.cells #[v0, v1, v2, v3, v4, v5, v6] t)) :=
  ⟨by simp, by simp, by simp, by simp, by simp, by simp, by simp, by simp, hb.alloc hb.size _⟩

end Go.Proofs.YtmaagcmbofedhaaDoor.B4
