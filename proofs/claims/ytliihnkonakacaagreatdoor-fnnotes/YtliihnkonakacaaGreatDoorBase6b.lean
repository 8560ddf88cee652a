/- Contracts of chapter 6's functions of the reference: l6Hex, l6Show, ShowValue, SameKind, l6Digit, l6Byte. -/
import Derived.Test.YtliihnkonakacaaGreatDoorBase6
import Derived.Test.YtliihnkonakacaaGreatDoorBase5h
import Derived.Deep.QuietTactic
import Derived.BigQuiet
namespace Go.Proofs.YtliihnkonakacaaGreatDoor.B6
open Go.Proofs.YtliihnkonakacaaGreatDoor.P1 Go.Proofs.YtliihnkonakacaaGreatDoor.B1 Go.Proofs.YtliihnkonakacaaGreatDoor.B2 Go.Proofs.YtliihnkonakacaaGreatDoor.T1 Go.Proofs.YtliihnkonakacaaGreatDoor.BT Go.Proofs.YtliihnkonakacaaGreatDoor.P5 Go.Proofs.YtliihnkonakacaaGreatDoor.P6 Go.Proofs.YtliihnkonakacaaGreatDoor.B5
open Go.ChangeShapes Go.WideShapes Go.ChangeAt Go.RowKit
set_option linter.unusedVariables false

theorem Below.drewN {B : Nat} {w w1 : World} (h : Below B w w1) (n : Nat) : Below B w (w1.drewN n) := ⟨h.os, h.tape, h.output, h.size, h.block⟩

theorem held7_drew {w w1 : World} {b1 : Nat} {v10 v11 v12 v13 v14 v15 v16 : Value} (c10 : w1.cell? ⟨b1, 0, none⟩ = some v10) (c11 : w1.cell? ⟨b1, 1, none⟩ = some v11) (c12 : w1.cell? ⟨b1, 2, none⟩ = some v12) (c13 : w1.cell? ⟨b1, 3, none⟩ = some v13) (c14 : w1.cell? ⟨b1, 4, none⟩ = some v14) (c15 : w1.cell? ⟨b1, 5, none⟩ = some v15) (c16 : w1.cell? ⟨b1, 6, none⟩ = some v16) (l1 : b1 < w1.heap.size) (hB : Below w.heap.size w w1) :
    w1.drew.cell? ⟨b1, 0, none⟩ = some v10 ∧ w1.drew.cell? ⟨b1, 1, none⟩ = some v11 ∧ w1.drew.cell? ⟨b1, 2, none⟩ = some v12 ∧ w1.drew.cell? ⟨b1, 3, none⟩ = some v13 ∧ w1.drew.cell? ⟨b1, 4, none⟩ = some v14 ∧ w1.drew.cell? ⟨b1, 5, none⟩ = some v15 ∧ w1.drew.cell? ⟨b1, 6, none⟩ = some v16 ∧ b1 < w1.drew.heap.size ∧ Below w.heap.size w w1.drew :=
  ⟨c10, c11, c12, c13, c14, c15, c16, l1, ⟨hB.os, hB.tape, hB.output, hB.size, hB.block⟩⟩

theorem held7_call {w w1 w2 : World} {b1 : Nat} {v10 v11 v12 v13 v14 v15 v16 : Value} (g : Below w1.heap.size w1 w2) (c10 : w1.cell? ⟨b1, 0, none⟩ = some v10) (c11 : w1.cell? ⟨b1, 1, none⟩ = some v11) (c12 : w1.cell? ⟨b1, 2, none⟩ = some v12) (c13 : w1.cell? ⟨b1, 3, none⟩ = some v13) (c14 : w1.cell? ⟨b1, 4, none⟩ = some v14) (c15 : w1.cell? ⟨b1, 5, none⟩ = some v15) (c16 : w1.cell? ⟨b1, 6, none⟩ = some v16) (l1 : b1 < w1.heap.size) (hB : Below w.heap.size w w1) :
    w2.cell? ⟨b1, 0, none⟩ = some v10 ∧ w2.cell? ⟨b1, 1, none⟩ = some v11 ∧ w2.cell? ⟨b1, 2, none⟩ = some v12 ∧ w2.cell? ⟨b1, 3, none⟩ = some v13 ∧ w2.cell? ⟨b1, 4, none⟩ = some v14 ∧ w2.cell? ⟨b1, 5, none⟩ = some v15 ∧ w2.cell? ⟨b1, 6, none⟩ = some v16 ∧ b1 < w2.heap.size ∧ Below w.heap.size w w2 :=
  ⟨(g.cell (p := ⟨b1, 0, none⟩) l1).trans c10, (g.cell (p := ⟨b1, 1, none⟩) l1).trans c11, (g.cell (p := ⟨b1, 2, none⟩) l1).trans c12, (g.cell (p := ⟨b1, 3, none⟩) l1).trans c13, (g.cell (p := ⟨b1, 4, none⟩) l1).trans c14, (g.cell (p := ⟨b1, 5, none⟩) l1).trans c15, (g.cell (p := ⟨b1, 6, none⟩) l1).trans c16, Nat.lt_of_lt_of_le l1 g.size, hB.trans (g.mono hB.size)⟩

theorem held7_new {w w1 : World} (v10 v11 v12 v13 v14 v15 v16 : Value) (t : TypeId) (hb : Below w.heap.size w w1) :
    (w1.alloc (.cells #[v10, v11, v12, v13, v14, v15, v16] t)).cell? ⟨w1.heap.size, 0, none⟩ = some v10 ∧ (w1.alloc (.cells #[v10, v11, v12, v13, v14, v15, v16] t)).cell? ⟨w1.heap.size, 1, none⟩ = some v11 ∧ (w1.alloc (.cells #[v10, v11, v12, v13, v14, v15, v16] t)).cell? ⟨w1.heap.size, 2, none⟩ = some v12 ∧ (w1.alloc (.cells #[v10, v11, v12, v13, v14, v15, v16] t)).cell? ⟨w1.heap.size, 3, none⟩ = some v13 ∧ (w1.alloc (.cells #[v10, v11, v12, v13, v14, v15, v16] t)).cell? ⟨w1.heap.size, 4, none⟩ = some v14 ∧ (w1.alloc (.cells #[v10, v11, v12, v13, v14, v15, v16] t)).cell? ⟨w1.heap.size, 5, none⟩ = some v15 ∧ (w1.alloc (.cells #[v10, v11, v12, v13, v14, v15, v16] t)).cell? ⟨w1.heap.size, 6, none⟩ = some v16 ∧ w1.heap.size < (w1.alloc (.cells #[v10, v11, v12, v13, v14, v15, v16] t)).heap.size ∧ Below w.heap.size w (w1.alloc (.cells #[v10, v11, v12, v13, v14, v15, v16] t)) :=
  ⟨by simp, by simp, by simp, by simp, by simp, by simp, by simp, by simp, hb.alloc hb.size _⟩

theorem held77_drew {w w1 : World} {b1 b2 : Nat} {v10 v11 v12 v13 v14 v15 v16 v20 v21 v22 v23 v24 v25 v26 : Value} (c10 : w1.cell? ⟨b1, 0, none⟩ = some v10) (c11 : w1.cell? ⟨b1, 1, none⟩ = some v11) (c12 : w1.cell? ⟨b1, 2, none⟩ = some v12) (c13 : w1.cell? ⟨b1, 3, none⟩ = some v13) (c14 : w1.cell? ⟨b1, 4, none⟩ = some v14) (c15 : w1.cell? ⟨b1, 5, none⟩ = some v15) (c16 : w1.cell? ⟨b1, 6, none⟩ = some v16) (c20 : w1.cell? ⟨b2, 0, none⟩ = some v20) (c21 : w1.cell? ⟨b2, 1, none⟩ = some v21) (c22 : w1.cell? ⟨b2, 2, none⟩ = some v22) (c23 : w1.cell? ⟨b2, 3, none⟩ = some v23) (c24 : w1.cell? ⟨b2, 4, none⟩ = some v24) (c25 : w1.cell? ⟨b2, 5, none⟩ = some v25) (c26 : w1.cell? ⟨b2, 6, none⟩ = some v26) (l1 : b1 < w1.heap.size) (l2 : b2 < w1.heap.size) (hB : Below w.heap.size w w1) :
    w1.drew.cell? ⟨b1, 0, none⟩ = some v10 ∧ w1.drew.cell? ⟨b1, 1, none⟩ = some v11 ∧ w1.drew.cell? ⟨b1, 2, none⟩ = some v12 ∧ w1.drew.cell? ⟨b1, 3, none⟩ = some v13 ∧ w1.drew.cell? ⟨b1, 4, none⟩ = some v14 ∧ w1.drew.cell? ⟨b1, 5, none⟩ = some v15 ∧ w1.drew.cell? ⟨b1, 6, none⟩ = some v16 ∧ w1.drew.cell? ⟨b2, 0, none⟩ = some v20 ∧ w1.drew.cell? ⟨b2, 1, none⟩ = some v21 ∧ w1.drew.cell? ⟨b2, 2, none⟩ = some v22 ∧ w1.drew.cell? ⟨b2, 3, none⟩ = some v23 ∧ w1.drew.cell? ⟨b2, 4, none⟩ = some v24 ∧ w1.drew.cell? ⟨b2, 5, none⟩ = some v25 ∧ w1.drew.cell? ⟨b2, 6, none⟩ = some v26 ∧ b1 < w1.drew.heap.size ∧ b2 < w1.drew.heap.size ∧ Below w.heap.size w w1.drew :=
  ⟨c10, c11, c12, c13, c14, c15, c16, c20, c21, c22, c23, c24, c25, c26, l1, l2, ⟨hB.os, hB.tape, hB.output, hB.size, hB.block⟩⟩

theorem held77_call {w w1 w2 : World} {b1 b2 : Nat} {v10 v11 v12 v13 v14 v15 v16 v20 v21 v22 v23 v24 v25 v26 : Value} (g : Below w1.heap.size w1 w2) (c10 : w1.cell? ⟨b1, 0, none⟩ = some v10) (c11 : w1.cell? ⟨b1, 1, none⟩ = some v11) (c12 : w1.cell? ⟨b1, 2, none⟩ = some v12) (c13 : w1.cell? ⟨b1, 3, none⟩ = some v13) (c14 : w1.cell? ⟨b1, 4, none⟩ = some v14) (c15 : w1.cell? ⟨b1, 5, none⟩ = some v15) (c16 : w1.cell? ⟨b1, 6, none⟩ = some v16) (c20 : w1.cell? ⟨b2, 0, none⟩ = some v20) (c21 : w1.cell? ⟨b2, 1, none⟩ = some v21) (c22 : w1.cell? ⟨b2, 2, none⟩ = some v22) (c23 : w1.cell? ⟨b2, 3, none⟩ = some v23) (c24 : w1.cell? ⟨b2, 4, none⟩ = some v24) (c25 : w1.cell? ⟨b2, 5, none⟩ = some v25) (c26 : w1.cell? ⟨b2, 6, none⟩ = some v26) (l1 : b1 < w1.heap.size) (l2 : b2 < w1.heap.size) (hB : Below w.heap.size w w1) :
    w2.cell? ⟨b1, 0, none⟩ = some v10 ∧ w2.cell? ⟨b1, 1, none⟩ = some v11 ∧ w2.cell? ⟨b1, 2, none⟩ = some v12 ∧ w2.cell? ⟨b1, 3, none⟩ = some v13 ∧ w2.cell? ⟨b1, 4, none⟩ = some v14 ∧ w2.cell? ⟨b1, 5, none⟩ = some v15 ∧ w2.cell? ⟨b1, 6, none⟩ = some v16 ∧ w2.cell? ⟨b2, 0, none⟩ = some v20 ∧ w2.cell? ⟨b2, 1, none⟩ = some v21 ∧ w2.cell? ⟨b2, 2, none⟩ = some v22 ∧ w2.cell? ⟨b2, 3, none⟩ = some v23 ∧ w2.cell? ⟨b2, 4, none⟩ = some v24 ∧ w2.cell? ⟨b2, 5, none⟩ = some v25 ∧ w2.cell? ⟨b2, 6, none⟩ = some v26 ∧ b1 < w2.heap.size ∧ b2 < w2.heap.size ∧ Below w.heap.size w w2 :=
  ⟨(g.cell (p := ⟨b1, 0, none⟩) l1).trans c10, (g.cell (p := ⟨b1, 1, none⟩) l1).trans c11, (g.cell (p := ⟨b1, 2, none⟩) l1).trans c12, (g.cell (p := ⟨b1, 3, none⟩) l1).trans c13, (g.cell (p := ⟨b1, 4, none⟩) l1).trans c14, (g.cell (p := ⟨b1, 5, none⟩) l1).trans c15, (g.cell (p := ⟨b1, 6, none⟩) l1).trans c16, (g.cell (p := ⟨b2, 0, none⟩) l2).trans c20, (g.cell (p := ⟨b2, 1, none⟩) l2).trans c21, (g.cell (p := ⟨b2, 2, none⟩) l2).trans c22, (g.cell (p := ⟨b2, 3, none⟩) l2).trans c23, (g.cell (p := ⟨b2, 4, none⟩) l2).trans c24, (g.cell (p := ⟨b2, 5, none⟩) l2).trans c25, (g.cell (p := ⟨b2, 6, none⟩) l2).trans c26, Nat.lt_of_lt_of_le l1 g.size, Nat.lt_of_lt_of_le l2 g.size, hB.trans (g.mono hB.size)⟩

theorem held77_new (w : World) (v10 v11 v12 v13 v14 v15 v16 v20 v21 v22 v23 v24 v25 v26 : Value) (t : TypeId) :
    ((w.alloc (.cells #[v10, v11, v12, v13, v14, v15, v16] t)).alloc (.cells #[v20, v21, v22, v23, v24, v25, v26] t)).cell? ⟨w.heap.size, 0, none⟩ = some v10 ∧ ((w.alloc (.cells #[v10, v11, v12, v13, v14, v15, v16] t)).alloc (.cells #[v20, v21, v22, v23, v24, v25, v26] t)).cell? ⟨w.heap.size, 1, none⟩ = some v11 ∧ ((w.alloc (.cells #[v10, v11, v12, v13, v14, v15, v16] t)).alloc (.cells #[v20, v21, v22, v23, v24, v25, v26] t)).cell? ⟨w.heap.size, 2, none⟩ = some v12 ∧ ((w.alloc (.cells #[v10, v11, v12, v13, v14, v15, v16] t)).alloc (.cells #[v20, v21, v22, v23, v24, v25, v26] t)).cell? ⟨w.heap.size, 3, none⟩ = some v13 ∧ ((w.alloc (.cells #[v10, v11, v12, v13, v14, v15, v16] t)).alloc (.cells #[v20, v21, v22, v23, v24, v25, v26] t)).cell? ⟨w.heap.size, 4, none⟩ = some v14 ∧ ((w.alloc (.cells #[v10, v11, v12, v13, v14, v15, v16] t)).alloc (.cells #[v20, v21, v22, v23, v24, v25, v26] t)).cell? ⟨w.heap.size, 5, none⟩ = some v15 ∧ ((w.alloc (.cells #[v10, v11, v12, v13, v14, v15, v16] t)).alloc (.cells #[v20, v21, v22, v23, v24, v25, v26] t)).cell? ⟨w.heap.size, 6, none⟩ = some v16 ∧ ((w.alloc (.cells #[v10, v11, v12, v13, v14, v15, v16] t)).alloc (.cells #[v20, v21, v22, v23, v24, v25, v26] t)).cell? ⟨w.heap.size + 1, 0, none⟩ = some v20 ∧ ((w.alloc (.cells #[v10, v11, v12, v13, v14, v15, v16] t)).alloc (.cells #[v20, v21, v22, v23, v24, v25, v26] t)).cell? ⟨w.heap.size + 1, 1, none⟩ = some v21 ∧ ((w.alloc (.cells #[v10, v11, v12, v13, v14, v15, v16] t)).alloc (.cells #[v20, v21, v22, v23, v24, v25, v26] t)).cell? ⟨w.heap.size + 1, 2, none⟩ = some v22 ∧ ((w.alloc (.cells #[v10, v11, v12, v13, v14, v15, v16] t)).alloc (.cells #[v20, v21, v22, v23, v24, v25, v26] t)).cell? ⟨w.heap.size + 1, 3, none⟩ = some v23 ∧ ((w.alloc (.cells #[v10, v11, v12, v13, v14, v15, v16] t)).alloc (.cells #[v20, v21, v22, v23, v24, v25, v26] t)).cell? ⟨w.heap.size + 1, 4, none⟩ = some v24 ∧ ((w.alloc (.cells #[v10, v11, v12, v13, v14, v15, v16] t)).alloc (.cells #[v20, v21, v22, v23, v24, v25, v26] t)).cell? ⟨w.heap.size + 1, 5, none⟩ = some v25 ∧ ((w.alloc (.cells #[v10, v11, v12, v13, v14, v15, v16] t)).alloc (.cells #[v20, v21, v22, v23, v24, v25, v26] t)).cell? ⟨w.heap.size + 1, 6, none⟩ = some v26 ∧ w.heap.size < ((w.alloc (.cells #[v10, v11, v12, v13, v14, v15, v16] t)).alloc (.cells #[v20, v21, v22, v23, v24, v25, v26] t)).heap.size ∧ w.heap.size + 1 < ((w.alloc (.cells #[v10, v11, v12, v13, v14, v15, v16] t)).alloc (.cells #[v20, v21, v22, v23, v24, v25, v26] t)).heap.size ∧ Below w.heap.size w ((w.alloc (.cells #[v10, v11, v12, v13, v14, v15, v16] t)).alloc (.cells #[v20, v21, v22, v23, v24, v25, v26] t)) :=
  ⟨by simp, by simp, by simp, by simp, by simp, by simp, by simp, by simp, by simp, by simp, by simp, by simp, by simp, by simp, by simp; omega, by simp, ((Below.refl _ _).alloc (Nat.le_refl _) _).alloc (by simp) _⟩

theorem hexs_ext (q : Nat) (h : q < 16) : (ByteArray.mk #[48, 49, 50, 51, 52, 53, 54, 55, 56, 57, 97, 98, 99, 100, 101, 102]).extract q (q + 1) = ⟨#[hexD q]⟩ := by
  have : q = 0 ∨ q = 1 ∨ q = 2 ∨ q = 3 ∨ q = 4 ∨ q = 5 ∨ q = 6 ∨ q = 7 ∨ q = 8 ∨ q = 9 ∨ q = 10 ∨ q = 11 ∨ q = 12 ∨ q = 13 ∨ q = 14 ∨ q = 15 := by omega
  rcases this with rfl | rfl | rfl | rfl | rfl | rfl | rfl | rfl | rfl | rfl | rfl | rfl | rfl | rfl | rfl | rfl <;> rfl

set_option maxHeartbeats 2000000 in
theorem Hex2_spec (m : Nat) (hm : m ≤ 255) (w : World) :
    Calls Tryz.prog 170 #[.int .i64 (m : Int)] w fun e w' => e = .returned (.string ⟨(hex2 m).toArray⟩) ∧ ∃ q, w' = w.drewN q := by
  have Hx := Lib.hid (show hex2 m = [hexD (m / 16), hexD (m % 16)] from rfl)
  obtain ⟨q, eq⟩ : ∃ q, m / 16 = q := ⟨_, rfl⟩
  obtain ⟨r, er⟩ : ∃ r, m % 16 = r := ⟨_, rfl⟩
  rw [eq, er] at Hx
  have hq16 : q < 16 := by omega
  have hr16 : r < 16 := by omega
  have hq : (m : Int) / 16 = (q : Int) := by omega
  have hr : (m : Int) % 16 = (r : Int) := by omega
  have hqw : IntKind.i64.wrap ((q : Int) + 1) = ((q + 1 : Nat) : Int) := by rw [IntKind.wrap_i64]; omega
  have hrw : IntKind.i64.wrap ((r : Int) + 1) = ((r + 1 : Nat) : Int) := by rw [IntKind.wrap_i64]; omega
  have m0 : (0 : Int) ≤ (m : Int) := by omega
  have m1 : (m : Int) ≤ 255 := by omega
  clear eq er
  go_enter Tryz.func170, Tryz.ntmps170
  go_wp2
  go_quiet (fail)
  go_wp2
  go_ret
  refine ⟨?_, nq, rfl⟩
  rw [Hx.out]
  show Ending.returned (Value.string (_ ++ _)) = _
  rw [hexs_ext q hq16, hexs_ext r hr16]
  rfl

set_option maxRecDepth 20000 in
set_option maxHeartbeats 1000000 in
theorem Show_color (n g r b c : Nat) (hr : r ≤ 255) (hg : g ≤ 255) (hb : b ≤ 255) (hc : c ≤ 255) (t : List UInt8) (w : World) :
    Calls Tryz.prog 132 #[valV ⟨4, n, r, g, b, c, t⟩] w (Ans (.string ⟨(35 :: colorText ⟨4, n, r, g, b, c, t⟩).toArray⟩) w) := by
  have HH := Lib.hid Hex2_spec
  have la : (hex2 r).length = 2 := rfl
  have ld : (hex2 g).length = 2 := rfl
  have lf : (hex2 b).length = 2 := rfl
  have lk : (hex2 c).length = 2 := rfl
  obtain ⟨s1, e1⟩ : ∃ s1, [35] ++ hex2 r = s1 := ⟨_, rfl⟩
  obtain ⟨s2, e2⟩ : ∃ s2, s1 ++ hex2 g = s2 := ⟨_, rfl⟩
  obtain ⟨s3, e3⟩ : ∃ s3, s2 ++ hex2 b = s3 := ⟨_, rfl⟩
  obtain ⟨s4, e4⟩ : ∃ s4, s3 ++ hex2 c = s4 := ⟨_, rfl⟩
  have l1 : s1.length = 3 := by rw [← e1]; simp; omega
  have l2 : s2.length = 5 := by rw [← e2]; simp; omega
  have l3 : s3.length = 7 := by rw [← e3]; simp; omega
  have l4 : s4.length = 9 := by rw [← e4]; simp; omega
  have h1 := str_addT _ _ _ e1 (by omega)
  have h2 := str_addT _ _ _ e2 (by omega)
  have h3 := str_addT _ _ _ e3 (by omega)
  have h4 := str_addT _ _ _ e4 (by omega)
  have Hx := Lib.hid (show 35 :: colorText ⟨4, n, r, g, b, c, t⟩ = if c = 255 then s3 else s4 by
    unfold colorText
    dsimp only
    simp only [Int.toNat_natCast]
    rw [← e4, ← e3, ← e2, ← e1]
    by_cases h : c = 255
    · rw [if_pos h, if_pos (by omega)]; simp
    · rw [if_neg h, if_neg (by omega)]; simp)
  unfold valV
  dsimp only
  clear e1 e2 e3 e4 la ld lf lk l1 l2 l3 l4
  by_cases hc' : c = 255
  · rw [if_pos hc'] at Hx
    have hcc : ((c : Int) == 255) = true := by simp; omega
    clear hc'
    go_enter Tryz.func132, Tryz.ntmps132
    go_wp2
    go_quiet ((go_at_call 170; exact Calls.quiet_of (HH.out _ (by assumption) _)))
    go_wp2
    go_ret
    exact ⟨by rw [Hx.out]; rfl, Below.drewN ((Below.refl _ _).alloc (Nat.le_refl _) _) _⟩
  · rw [if_neg hc'] at Hx
    have hcc : ((c : Int) == 255) = false := by simp; omega
    clear hc'
    go_enter Tryz.func132, Tryz.ntmps132
    go_wp2
    go_quiet ((go_at_call 170; exact Calls.quiet_of (HH.out _ (by assumption) _)))
    go_wp2_with (go_at_call 170; refine (HH.out _ (by assumption) _).mono ?_; rintro e w' ⟨rfl, nr, rfl⟩)
    go_ret
    exact ⟨by rw [Hx.out]; rfl, Below.drewN ((Below.refl _ _).alloc (Nat.le_refl _) _) _⟩

set_option maxRecDepth 20000 in
set_option maxHeartbeats 2000000 in
theorem Show_num (k n : Int) (w : World) (hk : k = 1 ∨ k = 2 ∨ k = 3) (h0 : -1000000 ≤ n) (h1 : n ≤ 1000000) :
    Calls Tryz.prog 132 #[valV ⟨k, n, 0, 0, 0, 0, []⟩] w (Ans (.string ⟨(showVal ⟨k, n, 0, 0, 0, 0, []⟩).toArray⟩) w) := by
  have HI := Lib.hid (fun w' => Int_spec n w' ⟨by omega, by omega⟩)
  have il := itoa_short (n := n) (by omega) (by omega)
  obtain ⟨s, es⟩ : ∃ s, Lib.itoa n = s := ⟨_, rfl⟩
  have e1 := Lib.hid (show showVal ⟨1, n, 0, 0, 0, 0, []⟩ = s by rw [← es]; rfl)
  have e2 := Lib.hid (show showVal ⟨2, n, 0, 0, 0, 0, []⟩ = s ++ [112, 120] by rw [← es]; rfl)
  have e3 := Lib.hid (show showVal ⟨3, n, 0, 0, 0, 0, []⟩ = s ++ [37] by rw [← es]; rfl)
  rw [es] at HI il
  have a2 := str_addT s [112, 120] _ rfl (by simp; omega)
  have a3 := str_addT s [37] _ rfl (by simp; omega)
  unfold valV
  dsimp only
  clear es
  rcases hk with rfl | rfl | rfl
  · clear a2 a3
    go_enter Tryz.func132, Tryz.ntmps132
    go_wp2_with (go_at_call 169; refine (HI.out _).mono ?_; rintro e w1 ⟨rfl, g1⟩)
    go_ret
    exact ⟨by rw [e1.out]; rfl, Below.box g1⟩
  · clear a3
    go_enter Tryz.func132, Tryz.ntmps132
    go_wp2_with (go_at_call 169; refine (HI.out _).mono ?_; rintro e w1 ⟨rfl, g1⟩)
    go_ret
    exact ⟨by rw [e2.out]; rfl, Below.box g1⟩
  · clear a2
    go_enter Tryz.func132, Tryz.ntmps132
    go_wp2_with (go_at_call 169; refine (HI.out _).mono ?_; rintro e w1 ⟨rfl, g1⟩)
    go_ret
    exact ⟨by rw [e3.out]; rfl, Below.box g1⟩

set_option maxRecDepth 20000 in
theorem Show_word (t : List UInt8) (w : World) : Calls Tryz.prog 132 #[valV ⟨5, 0, 0, 0, 0, 0, t⟩] w (Ans (.string ⟨t.toArray⟩) w) := by
  unfold valV
  dsimp only
  go_enter Tryz.func132, Tryz.ntmps132
  go_wp2
  go_ret
  exact ⟨rfl, (Below.refl _ _).alloc (Nat.le_refl _) _⟩

theorem ShowV_spec (v : Va) (h : valueOk v = true) (w : World) :
    Calls Tryz.prog 132 #[valV v] w (Ans (.string ⟨(showVal v).toArray⟩) w) := by
  rcases valueOk_cases h with ⟨hk, h0, h1, e⟩ | ⟨hk, hr, hg, hb, hc, hn, hw⟩ | ⟨hk, hne, hl, hn, e⟩
  · rw [e]; exact Show_num v.k v.n w hk h0 h1
  · obtain ⟨k, n, r, g, b, c, t⟩ := v
    dsimp only at hk hr hg hb hc hn hw
    subst hk hn
    obtain ⟨r', rfl⟩ := Int.eq_ofNat_of_zero_le hr.1
    obtain ⟨g', rfl⟩ := Int.eq_ofNat_of_zero_le hg.1
    obtain ⟨b', rfl⟩ := Int.eq_ofNat_of_zero_le hb.1
    obtain ⟨c', rfl⟩ := Int.eq_ofNat_of_zero_le hc.1
    exact Show_color 0 g' r' b' c' (by omega) (by omega) (by omega) (by omega) t w
  · have : showVal v = v.w := by unfold showVal; rw [if_neg (by omega), if_neg (by omega), if_neg (by omega), if_neg (by omega)]
    rw [this, e]; exact Show_word v.w w

end Go.Proofs.YtliihnkonakacaaGreatDoor.B6
