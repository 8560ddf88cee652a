/- Contracts of chapter 6's functions of the program: number, measure, shades, isName, ValueOk, SameKind. -/
import Derived.Test.YtgaggpnlimchkaaGreatDoorBase6
import Derived.Test.YtgaggpnlimchkaaGreatDoorBase5n
import Derived.Test.YtgaggpnlimchkaaGreatDoorImp5f
import Derived.Test.YtgaggpnlimchkaaGreatDoorPlain6p
import Derived.Test.YtgaggpnlimchkaaGreatDoorFound
import Derived.Test.YtgaggpnlimchkaaGreatDoorBase6b
import Derived.Deep.RegionHeld3
import Derived.Deep.DeepCutAuto
namespace Go.Proofs.YtgaggpnlimchkaaGreatDoor.V6
open Go.Proofs.YtgaggpnlimchkaaGreatDoor.P1 Go.Proofs.YtgaggpnlimchkaaGreatDoor.B1 Go.Proofs.YtgaggpnlimchkaaGreatDoor.B2 Go.Proofs.YtgaggpnlimchkaaGreatDoor.T1 Go.Proofs.YtgaggpnlimchkaaGreatDoor.BT Go.Proofs.YtgaggpnlimchkaaGreatDoor.P5 Go.Proofs.YtgaggpnlimchkaaGreatDoor.P6 Go.Proofs.YtgaggpnlimchkaaGreatDoor.B5 Go.Proofs.YtgaggpnlimchkaaGreatDoor.B6 Go.Proofs.YtgaggpnlimchkaaGreatDoor.S7 Go.Proofs.YtgaggpnlimchkaaGreatDoor.D1
open Go.ChangeShapes Go.WideShapes Go.ChangeAt Go.RowKit
set_option linter.unusedVariables false

theorem held2_drew {w w1 : World} {b1 : Nat} {v10 v11 : Value} (c10 : w1.cell? ⟨b1, 0, none⟩ = some v10) (c11 : w1.cell? ⟨b1, 1, none⟩ = some v11) (l1 : b1 < w1.heap.size) (hB : Below w.heap.size w w1) :
    w1.drew.cell? ⟨b1, 0, none⟩ = some v10 ∧ w1.drew.cell? ⟨b1, 1, none⟩ = some v11 ∧ b1 < w1.drew.heap.size ∧ Below w.heap.size w w1.drew :=
  ⟨c10, c11, l1, ⟨hB.os, hB.tape, hB.output, hB.size, hB.block⟩⟩

theorem held2_call {w w1 w2 : World} {b1 : Nat} {v10 v11 : Value} (g : Below w1.heap.size w1 w2) (c10 : w1.cell? ⟨b1, 0, none⟩ = some v10) (c11 : w1.cell? ⟨b1, 1, none⟩ = some v11) (l1 : b1 < w1.heap.size) (hB : Below w.heap.size w w1) :
    w2.cell? ⟨b1, 0, none⟩ = some v10 ∧ w2.cell? ⟨b1, 1, none⟩ = some v11 ∧ b1 < w2.heap.size ∧ Below w.heap.size w w2 :=
  ⟨(g.cell (p := ⟨b1, 0, none⟩) l1).trans c10, (g.cell (p := ⟨b1, 1, none⟩) l1).trans c11, Nat.lt_of_lt_of_le l1 g.size, hB.trans (g.mono hB.size)⟩

theorem held72_drew {w w1 : World} {b1 b2 : Nat} {v10 v11 v12 v13 v14 v15 v16 v20 v21 : Value} (c10 : w1.cell? ⟨b1, 0, none⟩ = some v10) (c11 : w1.cell? ⟨b1, 1, none⟩ = some v11) (c12 : w1.cell? ⟨b1, 2, none⟩ = some v12) (c13 : w1.cell? ⟨b1, 3, none⟩ = some v13) (c14 : w1.cell? ⟨b1, 4, none⟩ = some v14) (c15 : w1.cell? ⟨b1, 5, none⟩ = some v15) (c16 : w1.cell? ⟨b1, 6, none⟩ = some v16) (c20 : w1.cell? ⟨b2, 0, none⟩ = some v20) (c21 : w1.cell? ⟨b2, 1, none⟩ = some v21) (l1 : b1 < w1.heap.size) (l2 : b2 < w1.heap.size) (hB : Below w.heap.size w w1) :
    w1.drew.cell? ⟨b1, 0, none⟩ = some v10 ∧ w1.drew.cell? ⟨b1, 1, none⟩ = some v11 ∧ w1.drew.cell? ⟨b1, 2, none⟩ = some v12 ∧ w1.drew.cell? ⟨b1, 3, none⟩ = some v13 ∧ w1.drew.cell? ⟨b1, 4, none⟩ = some v14 ∧ w1.drew.cell? ⟨b1, 5, none⟩ = some v15 ∧ w1.drew.cell? ⟨b1, 6, none⟩ = some v16 ∧ w1.drew.cell? ⟨b2, 0, none⟩ = some v20 ∧ w1.drew.cell? ⟨b2, 1, none⟩ = some v21 ∧ b1 < w1.drew.heap.size ∧ b2 < w1.drew.heap.size ∧ Below w.heap.size w w1.drew :=
  ⟨c10, c11, c12, c13, c14, c15, c16, c20, c21, l1, l2, ⟨hB.os, hB.tape, hB.output, hB.size, hB.block⟩⟩

theorem held72_call {w w1 w2 : World} {b1 b2 : Nat} {v10 v11 v12 v13 v14 v15 v16 v20 v21 : Value} (g : Below w1.heap.size w1 w2) (c10 : w1.cell? ⟨b1, 0, none⟩ = some v10) (c11 : w1.cell? ⟨b1, 1, none⟩ = some v11) (c12 : w1.cell? ⟨b1, 2, none⟩ = some v12) (c13 : w1.cell? ⟨b1, 3, none⟩ = some v13) (c14 : w1.cell? ⟨b1, 4, none⟩ = some v14) (c15 : w1.cell? ⟨b1, 5, none⟩ = some v15) (c16 : w1.cell? ⟨b1, 6, none⟩ = some v16) (c20 : w1.cell? ⟨b2, 0, none⟩ = some v20) (c21 : w1.cell? ⟨b2, 1, none⟩ = some v21) (l1 : b1 < w1.heap.size) (l2 : b2 < w1.heap.size) (hB : Below w.heap.size w w1) :
    w2.cell? ⟨b1, 0, none⟩ = some v10 ∧ w2.cell? ⟨b1, 1, none⟩ = some v11 ∧ w2.cell? ⟨b1, 2, none⟩ = some v12 ∧ w2.cell? ⟨b1, 3, none⟩ = some v13 ∧ w2.cell? ⟨b1, 4, none⟩ = some v14 ∧ w2.cell? ⟨b1, 5, none⟩ = some v15 ∧ w2.cell? ⟨b1, 6, none⟩ = some v16 ∧ w2.cell? ⟨b2, 0, none⟩ = some v20 ∧ w2.cell? ⟨b2, 1, none⟩ = some v21 ∧ b1 < w2.heap.size ∧ b2 < w2.heap.size ∧ Below w.heap.size w w2 :=
  ⟨(g.cell (p := ⟨b1, 0, none⟩) l1).trans c10, (g.cell (p := ⟨b1, 1, none⟩) l1).trans c11, (g.cell (p := ⟨b1, 2, none⟩) l1).trans c12, (g.cell (p := ⟨b1, 3, none⟩) l1).trans c13, (g.cell (p := ⟨b1, 4, none⟩) l1).trans c14, (g.cell (p := ⟨b1, 5, none⟩) l1).trans c15, (g.cell (p := ⟨b1, 6, none⟩) l1).trans c16, (g.cell (p := ⟨b2, 0, none⟩) l2).trans c20, (g.cell (p := ⟨b2, 1, none⟩) l2).trans c21, Nat.lt_of_lt_of_le l1 g.size, Nat.lt_of_lt_of_le l2 g.size, hB.trans (g.mono hB.size)⟩

theorem held74_drew {w w1 : World} {b1 b2 : Nat} {v10 v11 v12 v13 v14 v15 v16 v20 v21 v22 v23 : Value} (c10 : w1.cell? ⟨b1, 0, none⟩ = some v10) (c11 : w1.cell? ⟨b1, 1, none⟩ = some v11) (c12 : w1.cell? ⟨b1, 2, none⟩ = some v12) (c13 : w1.cell? ⟨b1, 3, none⟩ = some v13) (c14 : w1.cell? ⟨b1, 4, none⟩ = some v14) (c15 : w1.cell? ⟨b1, 5, none⟩ = some v15) (c16 : w1.cell? ⟨b1, 6, none⟩ = some v16) (c20 : w1.cell? ⟨b2, 0, none⟩ = some v20) (c21 : w1.cell? ⟨b2, 1, none⟩ = some v21) (c22 : w1.cell? ⟨b2, 2, none⟩ = some v22) (c23 : w1.cell? ⟨b2, 3, none⟩ = some v23) (l1 : b1 < w1.heap.size) (l2 : b2 < w1.heap.size) (hB : Below w.heap.size w w1) :
    w1.drew.cell? ⟨b1, 0, none⟩ = some v10 ∧ w1.drew.cell? ⟨b1, 1, none⟩ = some v11 ∧ w1.drew.cell? ⟨b1, 2, none⟩ = some v12 ∧ w1.drew.cell? ⟨b1, 3, none⟩ = some v13 ∧ w1.drew.cell? ⟨b1, 4, none⟩ = some v14 ∧ w1.drew.cell? ⟨b1, 5, none⟩ = some v15 ∧ w1.drew.cell? ⟨b1, 6, none⟩ = some v16 ∧ w1.drew.cell? ⟨b2, 0, none⟩ = some v20 ∧ w1.drew.cell? ⟨b2, 1, none⟩ = some v21 ∧ w1.drew.cell? ⟨b2, 2, none⟩ = some v22 ∧ w1.drew.cell? ⟨b2, 3, none⟩ = some v23 ∧ b1 < w1.drew.heap.size ∧ b2 < w1.drew.heap.size ∧ Below w.heap.size w w1.drew :=
  ⟨c10, c11, c12, c13, c14, c15, c16, c20, c21, c22, c23, l1, l2, ⟨hB.os, hB.tape, hB.output, hB.size, hB.block⟩⟩

theorem held74_call {w w1 w2 : World} {b1 b2 : Nat} {v10 v11 v12 v13 v14 v15 v16 v20 v21 v22 v23 : Value} (g : Below w1.heap.size w1 w2) (c10 : w1.cell? ⟨b1, 0, none⟩ = some v10) (c11 : w1.cell? ⟨b1, 1, none⟩ = some v11) (c12 : w1.cell? ⟨b1, 2, none⟩ = some v12) (c13 : w1.cell? ⟨b1, 3, none⟩ = some v13) (c14 : w1.cell? ⟨b1, 4, none⟩ = some v14) (c15 : w1.cell? ⟨b1, 5, none⟩ = some v15) (c16 : w1.cell? ⟨b1, 6, none⟩ = some v16) (c20 : w1.cell? ⟨b2, 0, none⟩ = some v20) (c21 : w1.cell? ⟨b2, 1, none⟩ = some v21) (c22 : w1.cell? ⟨b2, 2, none⟩ = some v22) (c23 : w1.cell? ⟨b2, 3, none⟩ = some v23) (l1 : b1 < w1.heap.size) (l2 : b2 < w1.heap.size) (hB : Below w.heap.size w w1) :
    w2.cell? ⟨b1, 0, none⟩ = some v10 ∧ w2.cell? ⟨b1, 1, none⟩ = some v11 ∧ w2.cell? ⟨b1, 2, none⟩ = some v12 ∧ w2.cell? ⟨b1, 3, none⟩ = some v13 ∧ w2.cell? ⟨b1, 4, none⟩ = some v14 ∧ w2.cell? ⟨b1, 5, none⟩ = some v15 ∧ w2.cell? ⟨b1, 6, none⟩ = some v16 ∧ w2.cell? ⟨b2, 0, none⟩ = some v20 ∧ w2.cell? ⟨b2, 1, none⟩ = some v21 ∧ w2.cell? ⟨b2, 2, none⟩ = some v22 ∧ w2.cell? ⟨b2, 3, none⟩ = some v23 ∧ b1 < w2.heap.size ∧ b2 < w2.heap.size ∧ Below w.heap.size w w2 :=
  ⟨(g.cell (p := ⟨b1, 0, none⟩) l1).trans c10, (g.cell (p := ⟨b1, 1, none⟩) l1).trans c11, (g.cell (p := ⟨b1, 2, none⟩) l1).trans c12, (g.cell (p := ⟨b1, 3, none⟩) l1).trans c13, (g.cell (p := ⟨b1, 4, none⟩) l1).trans c14, (g.cell (p := ⟨b1, 5, none⟩) l1).trans c15, (g.cell (p := ⟨b1, 6, none⟩) l1).trans c16, (g.cell (p := ⟨b2, 0, none⟩) l2).trans c20, (g.cell (p := ⟨b2, 1, none⟩) l2).trans c21, (g.cell (p := ⟨b2, 2, none⟩) l2).trans c22, (g.cell (p := ⟨b2, 3, none⟩) l2).trans c23, Nat.lt_of_lt_of_le l1 g.size, Nat.lt_of_lt_of_le l2 g.size, hB.trans (g.mono hB.size)⟩

theorem held7_alloc {w w1 : World} {b : Nat} {v0 v1 v2 v3 v4 v5 v6 : Value} (o : Obj) (c0 : w1.cell? ⟨b, 0, none⟩ = some v0) (c1 : w1.cell? ⟨b, 1, none⟩ = some v1) (c2 : w1.cell? ⟨b, 2, none⟩ = some v2) (c3 : w1.cell? ⟨b, 3, none⟩ = some v3) (c4 : w1.cell? ⟨b, 4, none⟩ = some v4) (c5 : w1.cell? ⟨b, 5, none⟩ = some v5) (c6 : w1.cell? ⟨b, 6, none⟩ = some v6) (l : b < w1.heap.size) (hB : Below w.heap.size w w1) :
    (w1.alloc o).cell? ⟨b, 0, none⟩ = some v0 ∧ (w1.alloc o).cell? ⟨b, 1, none⟩ = some v1 ∧ (w1.alloc o).cell? ⟨b, 2, none⟩ = some v2 ∧ (w1.alloc o).cell? ⟨b, 3, none⟩ = some v3 ∧ (w1.alloc o).cell? ⟨b, 4, none⟩ = some v4 ∧ (w1.alloc o).cell? ⟨b, 5, none⟩ = some v5 ∧ (w1.alloc o).cell? ⟨b, 6, none⟩ = some v6 ∧ b < (w1.alloc o).heap.size ∧ Below w.heap.size w (w1.alloc o) :=
  held7_call ((Below.refl _ _).alloc (Nat.le_refl _) o) c0 c1 c2 c3 c4 c5 c6 l hB

theorem same_comm (x y : Va) : x.same y = y.same x := by
  unfold Va.same
  simp only [Bool.beq_comm]

/-- A measure: its number and its unit. -/
def mV (n : Int) (u : List UInt8) : Value := .agg #[.int .i64 n, .string ⟨u.toArray⟩]

def unitOf (k : Int) : List UInt8 := if k = 2 then [112, 120] else if k = 3 then [37] else []

def kindOf (u : List UInt8) : Int := if u = [] then 1 else if u = [112, 120] then 2 else if u = [37] then 3 else 0

theorem numOk_impl (n : Int) (w : World) :
    Calls Tryz.prog 149 #[.int .i64 n] w fun e w' => e = .returned (.bool (within n (-1000000) 1000000)) ∧ w = w' := by
  go_enter Tryz.func149, Tryz.ntmps149
  go_wp2_with (go_at_call 85; refine (within_impl _ _ _ _).mono ?_; rintro e w' ⟨rfl, rfl⟩)
  go_ret
  exact ⟨rfl, rfl⟩

theorem kind_impl (n : Int) (u : List UInt8) (w : World) :
    Calls Tryz.prog 185 #[mV n u] w (Ans (.int .i64 (kindOf u)) w) := by
  unfold mV
  by_cases h0 : u = []
  · have hk := Lib.hid (show kindOf u = 1 by unfold kindOf; rw [if_pos h0])
    have e0 : (u == []) = true := str_same h0
    clear h0
    go_enter Tryz.func185, Tryz.ntmps185
    go_wp2
    go_ret
    exact ⟨by rw [hk.out]; rfl, (Below.refl _ _).alloc (Nat.le_refl _) _⟩
  · have e0 : (u == []) = false := str_other h0
    by_cases h1 : u = [112, 120]
    · have hk := Lib.hid (show kindOf u = 2 by unfold kindOf; rw [if_neg h0, if_pos h1])
      have e1 : (u == [112, 120]) = true := str_same h1
      clear h0 h1
      go_enter Tryz.func185, Tryz.ntmps185
      go_wp2
      go_ret
      exact ⟨by rw [hk.out]; rfl, (Below.refl _ _).alloc (Nat.le_refl _) _⟩
    · have e1 : (u == [112, 120]) = false := str_other h1
      by_cases h2 : u = [37]
      · have hk := Lib.hid (show kindOf u = 3 by unfold kindOf; rw [if_neg h0, if_neg h1, if_pos h2])
        have e2 : (u == [37]) = true := str_same h2
        clear h0 h1 h2
        go_enter Tryz.func185, Tryz.ntmps185
        go_wp2
        go_ret
        exact ⟨by rw [hk.out]; rfl, (Below.refl _ _).alloc (Nat.le_refl _) _⟩
      · have hk := Lib.hid (show kindOf u = 0 by unfold kindOf; rw [if_neg h0, if_neg h1, if_neg h2])
        have e2 : (u == [37]) = false := str_other h2
        clear h0 h1 h2
        go_enter Tryz.func185, Tryz.ntmps185
        go_wp2
        go_ret
        exact ⟨by rw [hk.out]; rfl, (Below.refl _ _).alloc (Nat.le_refl _) _⟩

set_option maxRecDepth 20000 in
set_option maxHeartbeats 2000000 in
theorem measureOf_impl (k n r g b c : Int) (t : List UInt8) (w : World) (hk : k = 1 ∨ k = 2 ∨ k = 3) :
    Calls Tryz.prog 148 #[valV ⟨k, n, r, g, b, c, t⟩] w (Ans (mV n (unitOf k)) w) := by
  unfold valV mV
  dsimp only
  rcases hk with rfl | rfl | rfl
  · go_enter Tryz.func148, Tryz.ntmps148
    go_wp2
    exact bodyPost_ret (v := .agg #[.int .i64 n, .string ⟨#[]⟩]) (by simp [results, Tryz.results148, go_sem]) rfl ⟨rfl, below_three _ _ _ _⟩
  · go_enter Tryz.func148, Tryz.ntmps148
    go_wp2
    exact bodyPost_ret (v := .agg #[.int .i64 n, .string ⟨#[112, 120]⟩]) (by simp [results, Tryz.results148, go_sem]) rfl ⟨rfl, below_three _ _ _ _⟩
  · go_enter Tryz.func148, Tryz.ntmps148
    go_wp2
    exact bodyPost_ret (v := .agg #[.int .i64 n, .string ⟨#[37]⟩]) (by simp [results, Tryz.results148, go_sem]) rfl ⟨rfl, below_three _ _ _ _⟩

theorem numOk_implB (n : Int) (w : World) : Calls Tryz.prog 149 #[.int .i64 n] w (Ans (.bool (within n (-1000000) 1000000)) w) :=
  (numOk_impl n w).mono fun _ _ ⟨he, hw⟩ => ⟨he, hw ▸ Below.refl _ _⟩

set_option maxRecDepth 20000 in
set_option maxHeartbeats 2000000 in
theorem value_impl (n : Int) (u : List UInt8) (w : World) :
    Calls Tryz.prog 150 #[mV n u] w (Ans (valV ⟨kindOf u, n, 0, 0, 0, 0, []⟩) w) := by
  have HK := Lib.hid (fun w' => kind_impl n u w')
  obtain ⟨k, ek⟩ : ∃ k, kindOf u = k := ⟨_, rfl⟩
  rw [ek] at HK ⊢
  unfold mV at HK ⊢
  clear ek
  go_enter Tryz.func150, Tryz.ntmps150
  go_wp2_with fail
  have hb1 := below_two2 w (.cells #[.int .i64 n, .string ⟨u.toArray⟩] 172) (.cells #[.int .i64 0, .int .i64 0, .int .i64 0, .int .i64 0, .int .i64 0, .int .i64 0, .string ⟨#[]⟩] 105)
  have hq : LBlk (w.alloc (.cells #[.int .i64 n, .string ⟨u.toArray⟩] 172)) w.heap.size [.int .i64 n, .string ⟨u.toArray⟩] := LBlk.new w _ _
  have hq' := hq.alloc (.cells #[.int .i64 0, .int .i64 0, .int .i64 0, .int .i64 0, .int .i64 0, .int .i64 0, .string ⟨#[]⟩] 105)
  have hr : LBlk ((w.alloc (.cells #[.int .i64 n, .string ⟨u.toArray⟩] 172)).alloc (.cells #[.int .i64 0, .int .i64 0, .int .i64 0, .int .i64 0, .int .i64 0, .int .i64 0, .string ⟨#[]⟩] 105)) (w.heap.size + 1) [.int .i64 0, .int .i64 0, .int .i64 0, .int .i64 0, .int .i64 0, .int .i64 0, .string ⟨#[]⟩] := by
    have := LBlk.new (w.alloc (.cells #[.int .i64 n, .string ⟨u.toArray⟩] 172)) [.int .i64 0, .int .i64 0, .int .i64 0, .int .i64 0, .int .i64 0, .int .i64 0, .string ⟨#[]⟩] 105
    rwa [World.size_alloc] at this
  clear hq
  generalize (w.alloc (.cells #[.int .i64 n, .string ⟨u.toArray⟩] 172)).alloc (.cells #[.int .i64 0, .int .i64 0, .int .i64 0, .int .i64 0, .int .i64 0, .int .i64 0, .string ⟨#[]⟩] 105) = W at *
  generalize hwb : w.heap.size = b1 at *
  have HW := Lib.hid hwb
  clear hwb
  have hne : b1 ≠ b1 + 1 := by omega
  have hle : b1 ≤ b1 + 1 := by omega
  have c0 : W.drew.cell? ⟨b1, 0, none⟩ = some (.int .i64 n) := (hq'.2 0 _ rfl).1
  have c1 : W.drew.cell? ⟨b1, 1, none⟩ = some (.string ⟨u.toArray⟩) := (hq'.2 1 _ rfl).1
  have hl : b1 < W.drew.heap.size := hq'.1
  have HT := Lib.hid (show ∀ w2, Below W.drew.heap.size W.drew w2 → LBlk w2 (b1 + 1) [.int .i64 0, .int .i64 0, .int .i64 0, .int .i64 0, .int .i64 0, .int .i64 0, .string ⟨#[]⟩] ∧ Below b1 w w2 from fun w2 hb2 => ⟨hr.drew.below hb2, (show Below b1 w W.drew from ⟨hb1.os, hb1.tape, hb1.output, hb1.size, hb1.block⟩).trans (hb2.mono (Nat.le_of_lt hl))⟩)
  clear hb1 hq' hr
  go_region_held3 (fun w' => w'.cell? ⟨b1, 0, none⟩ = some (.int .i64 n) ∧ w'.cell? ⟨b1, 1, none⟩ = some (.string ⟨u.toArray⟩) ∧ b1 < w'.heap.size)
    (first | with_reducible exact ⟨c0, c1, hl⟩ | with_reducible exact ⟨t0, t1, tl⟩ | exact cells2_put hne t0 t1 tl _ _ _ _ _ _ _)
    (first | (go_at_call 185; refine (HK.out _).mono ?_; rintro e w2 ⟨rfl, hb2⟩; obtain ⟨t0, t1, tl⟩ := cells2_call hb2 c0 c1 hl; obtain ⟨hF, hB2⟩ := HT.out w2 hb2; obtain ⟨z0, z1, z2, z3, z4, z5, z6, f0, f1, f2, f3, f4, f5, f6⟩ := seven_cells hF))
  go_wp2_with fail
  obtain ⟨p0, p1, p2, p3, p4, p5, p6, _⟩ := seven_cells (put7_blk hF (.int .i64 k) (.int .i64 n) (.int .i64 0) (.int .i64 0) (.int .i64 0) (.int .i64 0) (.string ⟨#[]⟩))
  unfold put7 at p0 p1 p2 p3 p4 p5 p6
  exact bodyPost_ret (v := valV ⟨k, n, 0, 0, 0, 0, []⟩) (by simp only [results, Tryz.results150]; simp [go_sem, p0, p1, p2, p3, p4, p5, p6, valV]) rfl ⟨rfl, HW.out ▸ put7_below hB2 hle (.int .i64 k) (.int .i64 n) (.int .i64 0) (.int .i64 0) (.int .i64 0) (.int .i64 0) (.string ⟨#[]⟩)⟩

/-- Four shades. -/
def shV (r g b c : Int) : Value := .agg #[.int .i64 r, .int .i64 g, .int .i64 b, .int .i64 c]

set_option maxRecDepth 20000 in
theorem shadesOf_impl (v : Va) (w : World) : Calls Tryz.prog 151 #[valV v] w (Ans (shV v.r v.g v.b v.c) w) := by
  obtain ⟨k, n, r, g, b, c, t⟩ := v
  unfold valV shV
  dsimp only
  go_enter Tryz.func151, Tryz.ntmps151
  go_wp2
  exact bodyPost_ret (v := .agg #[.int .i64 r, .int .i64 g, .int .i64 b, .int .i64 c]) (by simp [results, Tryz.results151, go_sem]) rfl ⟨rfl, below_two2 _ _ _⟩

set_option maxRecDepth 20000 in
theorem colorOf_impl (r g b c : Int) (w : World) : Calls Tryz.prog 153 #[shV r g b c] w (Ans (valV ⟨4, 0, r, g, b, c, []⟩) w) := by
  unfold valV shV
  dsimp only
  go_enter Tryz.func153, Tryz.ntmps153
  go_wp2
  exact bodyPost_ret (v := .agg #[.int .i64 4, .int .i64 0, .int .i64 r, .int .i64 g, .int .i64 b, .int .i64 c, .string ⟨#[]⟩]) (by simp [results, Tryz.results153, go_sem]) rfl ⟨rfl, below_two2 _ _ _⟩

theorem arr4_at (r g b c x : Int) (i : Nat) (h : [r, g, b, c][i]? = some x) (w : World) :
    (Instr.index 176 (.agg #[.int .i64 r, .int .i64 g, .int .i64 b, .int .i64 c]) (.int .i64 (i : Int))).run Tryz.prog w = .ok (.int .i64 x) w := by
  have hu := Tryz.underlying176
  have hag := Tryz.isAgg2
  have hz := Tryz.sizeOf2
  have hi : i < 4 := by
    rcases Nat.lt_or_ge i 4 with h' | h'
    · exact h'
    · rw [List.getElem?_eq_none (by simpa using h')] at h; cases h
  have hv : [Value.int .i64 r, Value.int .i64 g, Value.int .i64 b, Value.int .i64 c][i]? = some (.int .i64 x) := by
    have := congrArg (Option.map (Value.int IntKind.i64)) h
    rw [← List.getElem?_map] at this
    exact this
  simp [Instr.index, run_underlying hu, asIntOf, go_sem, hag, hz]
  rw [if_pos hi, hv]
  rfl

set_option maxRecDepth 20000 in
set_option maxHeartbeats 2000000 in
theorem shadesOk_impl (r g b c : Int) (w : World) :
    Calls Tryz.prog 152 #[shV r g b c] w (Ans (.bool (level r && level g && level b && level c)) w) := by
  have Hf := Lib.hid (show (level r && level g && level b && level c) = [r, g, b, c].all level by simp [Bool.and_assoc])
  unfold shV
  go_enter Tryz.func152, Tryz.ntmps152
  go_wp2
  go_loopg [6] 4 (fun kx s6 wr => ∃ i : Nat, s6 = .int .i64 (i : Int) ∧ kx + i = 4 ∧ Hid (∀ j x, j < i → [r, g, b, c][j]? = some x → level x = true) ∧ Below w.heap.size w wr)
  case atStart => exact ⟨0, rfl, by omega, Lib.hid fun j x hj => absurd hj (Nat.not_lt_zero _), (Below.refl _ _).alloc (Nat.le_refl _) _⟩
  case round =>
    obtain ⟨i, rfl, hk, I, hB⟩ := hrel
    by_cases hlt : i < 4
    · have hlt' : (i : Int) < 4 := by omega
      obtain ⟨x, hx⟩ : ∃ x, [r, g, b, c][i]? = some x := ⟨_, List.getElem?_eq_getElem hlt⟩
      have hat := fun w' => arr4_at r g b c x i hx w'
      have HX := Lib.hid hx
      have HL := Lib.hid (show within x 0 255 = level x from rfl)
      have HW := Lib.hid (fun w' => within_impl x 0 255 w')
      rw [HL.out] at HW
      clear hx
      cases hok : level x
      · have HA := Lib.hid (show [r, g, b, c].all level = false by
          rw [Bool.eq_false_iff]
          intro ha
          have := List.all_eq_true.1 ha x (List.mem_of_getElem? HX.out)
          rw [hok] at this; cases this)
        rw [hok] at HW
        go_wp2_with (go_at_call 85; refine (HW.out _).mono ?_; rintro e w2 ⟨rfl, rfl⟩)
        go_ret
        exact ⟨by rw [Hf.out, HA.out]; rfl, hB⟩
      · have HI := Lib.hid (show ∀ j y, j < i + 1 → [r, g, b, c][j]? = some y → level y = true from fun j y hj hy => by
          rcases Nat.lt_or_eq_of_le (Nat.le_of_lt_succ hj) with h | h
          · exact I.out j y h hy
          · rw [h, HX.out] at hy; cases hy; exact hok)
        rw [hok] at HW
        go_wp2_with (go_at_call 85; refine (HW.out _).mono ?_; rintro e w2 ⟨rfl, rfl⟩)
        go_roundg (4 - (i + 1))
        case measure => omega
        case rel => exact ⟨i + 1, by go_num, by omega, HI, hB⟩
    · have hlt' : ¬ (i : Int) < 4 := by omega
      have HA := Lib.hid (show [r, g, b, c].all level = true by
        rw [List.all_eq_true]
        intro x hx
        obtain ⟨j, hj, e⟩ := List.getElem_of_mem hx
        exact I.out j x (by simp at hj; omega) (by rw [List.getElem?_eq_getElem hj, e]))
      go_wp2
      go_ret
      exact ⟨by rw [Hf.out, HA.out]; rfl, hB⟩

set_option maxHeartbeats 2000000 in
theorem isName_impl (t : List UInt8) (m : Nat) (hm : m ≤ 4000) (w : World) (L : Pow w) (hl : t.length ≤ 9223372036854775807) :
    Calls Tryz.prog 115 #[.string ⟨t.toArray⟩, .int .i64 (m : Int)] w (Ans (.bool (isName t m)) w) := by
  obtain ⟨n, eN⟩ : ∃ n, t.length = n := ⟨_, rfl⟩
  have hlen := fun (w' : World) (ty : TypeId) => str_lenN t n eN w' ty
  by_cases h12 : n ≤ m
  · have HT := Lib.hid (fun w' (L' : Pow w') => TokenOk_impl ⟨1, t, 0⟩ w' L' (by dsimp only; omega) (by dsimp only; omega) (by show t.length ≤ 4000; omega))
    rw [tokOk_name (by omega) hm] at HT
    have hle : (n : Int) ≤ (m : Int) := by omega
    unfold tokV at HT
    dsimp only at HT
    clear eN hl h12
    go_enter Tryz.func115, Tryz.ntmps115
    go_wp2_with (go_at_call 124; refine (HT.out _ L).mono ?_; rintro e w1 ⟨rfl, g1⟩)
    go_ret
    exact ⟨rfl, g1⟩
  · have Hn := Lib.hid (show isName t m = false by unfold isName; rw [eN, show decide (n ≤ m) = false by simpa using h12]; simp)
    have hle : ¬ (n : Int) ≤ (m : Int) := by omega
    clear eN hl h12
    go_enter Tryz.func115, Tryz.ntmps115
    go_wp2
    go_ret
    exact ⟨by rw [Hn.out]; rfl, Below.refl _ _⟩

end Go.Proofs.YtgaggpnlimchkaaGreatDoor.V6
