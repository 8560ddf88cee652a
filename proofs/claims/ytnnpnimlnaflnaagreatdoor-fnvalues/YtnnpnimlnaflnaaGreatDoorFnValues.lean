/- Proved: for every slice of bytes FnValues answers true: a value is read from its text, with spaces around it or not, of what the bytes draw. No condition. -/
import Derived.Test.YtnnpnimlnaflnaaGreatDoorDraw6c
import Derived.Test.YtnnpnimlnaflnaaGreatDoorImp6t
import Derived.Test.YtnnpnimlnaflnaaGreatDoorBase6f
import Derived.Test.YtnnpnimlnaflnaaGreatDoorDoor6
import Derived.Test.YtnnpnimlnaflnaaGreatDoorOpenB
import Derived.Deep.RegionHeld3
import Derived.Test.YtnnpnimlnaflnaaGreatDoorRows
import Derived.Test.YtnnpnimlnaflnaaGreatDoorCards
import Derived.Test.YtnnpnimlnaflnaaGreatDoorTie
import Derived.WalkKit
import Derived.ProofKit
import Derived.OpenShut
import Derived.ShutString
import Derived.ChangeOld
import Derived.Below
import Derived.OpenVars
import Derived.ChangeVars
import Derived.Handed
import Derived.Lay
import Derived.LaidLaws
import Derived.MakeChecks
import Derived.SevenTiedAt
import Derived.Stop.Joined
namespace Go.Proofs.YtnnpnimlnaflnaaGreatDoor.fnValues
open Go.ChangeShapes Go.WideShapes Go.ChangeAt Go.RowKit
open Go.ChangeMaps (open_string shut_string)
set_option linter.unusedVariables false

theorem own : ownKnob Tryz.prog.godebug = none := by kernel_rfl
theorem laidOut : laidOutB Tryz.prog = true := by kernel_rfl

open Go.Proofs.YtnnpnimlnaflnaaGreatDoor.P1 Go.Proofs.YtnnpnimlnaflnaaGreatDoor.B1 Go.Proofs.YtnnpnimlnaflnaaGreatDoor.B2 Go.Proofs.YtnnpnimlnaflnaaGreatDoor.T1 Go.Proofs.YtnnpnimlnaflnaaGreatDoor.BT Go.Proofs.YtnnpnimlnaflnaaGreatDoor.P5 Go.Proofs.YtnnpnimlnaflnaaGreatDoor.P6 Go.Proofs.YtnnpnimlnaflnaaGreatDoor.B5 Go.Proofs.YtnnpnimlnaflnaaGreatDoor.B6 Go.Proofs.YtnnpnimlnaflnaaGreatDoor.S7 Go.Proofs.YtnnpnimlnaflnaaGreatDoor.V6 Go.Proofs.YtnnpnimlnaflnaaGreatDoor.D1
theorem heldV_drew {w w1 : World} {b1 b2 b3 b4 b5 : Nat} {v10 v11 v12 v13 v14 v15 v16 v20 v21 v22 v23 v24 v25 v26 v30 v31 v32 v33 v34 v35 v36 v40 v41 v42 v43 v44 v45 v46 v50 v51 v52 v53 v54 v55 v56 : Value} (c10 : w1.cell? ⟨b1, 0, none⟩ = some v10) (c11 : w1.cell? ⟨b1, 1, none⟩ = some v11) (c12 : w1.cell? ⟨b1, 2, none⟩ = some v12) (c13 : w1.cell? ⟨b1, 3, none⟩ = some v13) (c14 : w1.cell? ⟨b1, 4, none⟩ = some v14) (c15 : w1.cell? ⟨b1, 5, none⟩ = some v15) (c16 : w1.cell? ⟨b1, 6, none⟩ = some v16) (c20 : w1.cell? ⟨b2, 0, none⟩ = some v20) (c21 : w1.cell? ⟨b2, 1, none⟩ = some v21) (c22 : w1.cell? ⟨b2, 2, none⟩ = some v22) (c23 : w1.cell? ⟨b2, 3, none⟩ = some v23) (c24 : w1.cell? ⟨b2, 4, none⟩ = some v24) (c25 : w1.cell? ⟨b2, 5, none⟩ = some v25) (c26 : w1.cell? ⟨b2, 6, none⟩ = some v26) (c30 : w1.cell? ⟨b3, 0, none⟩ = some v30) (c31 : w1.cell? ⟨b3, 1, none⟩ = some v31) (c32 : w1.cell? ⟨b3, 2, none⟩ = some v32) (c33 : w1.cell? ⟨b3, 3, none⟩ = some v33) (c34 : w1.cell? ⟨b3, 4, none⟩ = some v34) (c35 : w1.cell? ⟨b3, 5, none⟩ = some v35) (c36 : w1.cell? ⟨b3, 6, none⟩ = some v36) (c40 : w1.cell? ⟨b4, 0, none⟩ = some v40) (c41 : w1.cell? ⟨b4, 1, none⟩ = some v41) (c42 : w1.cell? ⟨b4, 2, none⟩ = some v42) (c43 : w1.cell? ⟨b4, 3, none⟩ = some v43) (c44 : w1.cell? ⟨b4, 4, none⟩ = some v44) (c45 : w1.cell? ⟨b4, 5, none⟩ = some v45) (c46 : w1.cell? ⟨b4, 6, none⟩ = some v46) (c50 : w1.cell? ⟨b5, 0, none⟩ = some v50) (c51 : w1.cell? ⟨b5, 1, none⟩ = some v51) (c52 : w1.cell? ⟨b5, 2, none⟩ = some v52) (c53 : w1.cell? ⟨b5, 3, none⟩ = some v53) (c54 : w1.cell? ⟨b5, 4, none⟩ = some v54) (c55 : w1.cell? ⟨b5, 5, none⟩ = some v55) (c56 : w1.cell? ⟨b5, 6, none⟩ = some v56) (l1 : b1 < w1.heap.size) (l2 : b2 < w1.heap.size) (l3 : b3 < w1.heap.size) (l4 : b4 < w1.heap.size) (l5 : b5 < w1.heap.size) (hB : Below w.heap.size w w1) :
    w1.drew.cell? ⟨b1, 0, none⟩ = some v10 ∧ w1.drew.cell? ⟨b1, 1, none⟩ = some v11 ∧ w1.drew.cell? ⟨b1, 2, none⟩ = some v12 ∧ w1.drew.cell? ⟨b1, 3, none⟩ = some v13 ∧ w1.drew.cell? ⟨b1, 4, none⟩ = some v14 ∧ w1.drew.cell? ⟨b1, 5, none⟩ = some v15 ∧ w1.drew.cell? ⟨b1, 6, none⟩ = some v16 ∧ w1.drew.cell? ⟨b2, 0, none⟩ = some v20 ∧ w1.drew.cell? ⟨b2, 1, none⟩ = some v21 ∧ w1.drew.cell? ⟨b2, 2, none⟩ = some v22 ∧ w1.drew.cell? ⟨b2, 3, none⟩ = some v23 ∧ w1.drew.cell? ⟨b2, 4, none⟩ = some v24 ∧ w1.drew.cell? ⟨b2, 5, none⟩ = some v25 ∧ w1.drew.cell? ⟨b2, 6, none⟩ = some v26 ∧ w1.drew.cell? ⟨b3, 0, none⟩ = some v30 ∧ w1.drew.cell? ⟨b3, 1, none⟩ = some v31 ∧ w1.drew.cell? ⟨b3, 2, none⟩ = some v32 ∧ w1.drew.cell? ⟨b3, 3, none⟩ = some v33 ∧ w1.drew.cell? ⟨b3, 4, none⟩ = some v34 ∧ w1.drew.cell? ⟨b3, 5, none⟩ = some v35 ∧ w1.drew.cell? ⟨b3, 6, none⟩ = some v36 ∧ w1.drew.cell? ⟨b4, 0, none⟩ = some v40 ∧ w1.drew.cell? ⟨b4, 1, none⟩ = some v41 ∧ w1.drew.cell? ⟨b4, 2, none⟩ = some v42 ∧ w1.drew.cell? ⟨b4, 3, none⟩ = some v43 ∧ w1.drew.cell? ⟨b4, 4, none⟩ = some v44 ∧ w1.drew.cell? ⟨b4, 5, none⟩ = some v45 ∧ w1.drew.cell? ⟨b4, 6, none⟩ = some v46 ∧ w1.drew.cell? ⟨b5, 0, none⟩ = some v50 ∧ w1.drew.cell? ⟨b5, 1, none⟩ = some v51 ∧ w1.drew.cell? ⟨b5, 2, none⟩ = some v52 ∧ w1.drew.cell? ⟨b5, 3, none⟩ = some v53 ∧ w1.drew.cell? ⟨b5, 4, none⟩ = some v54 ∧ w1.drew.cell? ⟨b5, 5, none⟩ = some v55 ∧ w1.drew.cell? ⟨b5, 6, none⟩ = some v56 ∧ b1 < w1.drew.heap.size ∧ b2 < w1.drew.heap.size ∧ b3 < w1.drew.heap.size ∧ b4 < w1.drew.heap.size ∧ b5 < w1.drew.heap.size ∧ Below w.heap.size w w1.drew :=
  ⟨c10, c11, c12, c13, c14, c15, c16, c20, c21, c22, c23, c24, c25, c26, c30, c31, c32, c33, c34, c35, c36, c40, c41, c42, c43, c44, c45, c46, c50, c51, c52, c53, c54, c55, c56, l1, l2, l3, l4, l5, ⟨hB.os, hB.tape, hB.output, hB.size, hB.block⟩⟩

theorem heldV_call {w w1 w2 : World} {b1 b2 b3 b4 b5 : Nat} {v10 v11 v12 v13 v14 v15 v16 v20 v21 v22 v23 v24 v25 v26 v30 v31 v32 v33 v34 v35 v36 v40 v41 v42 v43 v44 v45 v46 v50 v51 v52 v53 v54 v55 v56 : Value} (g : Below w1.heap.size w1 w2) (c10 : w1.cell? ⟨b1, 0, none⟩ = some v10) (c11 : w1.cell? ⟨b1, 1, none⟩ = some v11) (c12 : w1.cell? ⟨b1, 2, none⟩ = some v12) (c13 : w1.cell? ⟨b1, 3, none⟩ = some v13) (c14 : w1.cell? ⟨b1, 4, none⟩ = some v14) (c15 : w1.cell? ⟨b1, 5, none⟩ = some v15) (c16 : w1.cell? ⟨b1, 6, none⟩ = some v16) (c20 : w1.cell? ⟨b2, 0, none⟩ = some v20) (c21 : w1.cell? ⟨b2, 1, none⟩ = some v21) (c22 : w1.cell? ⟨b2, 2, none⟩ = some v22) (c23 : w1.cell? ⟨b2, 3, none⟩ = some v23) (c24 : w1.cell? ⟨b2, 4, none⟩ = some v24) (c25 : w1.cell? ⟨b2, 5, none⟩ = some v25) (c26 : w1.cell? ⟨b2, 6, none⟩ = some v26) (c30 : w1.cell? ⟨b3, 0, none⟩ = some v30) (c31 : w1.cell? ⟨b3, 1, none⟩ = some v31) (c32 : w1.cell? ⟨b3, 2, none⟩ = some v32) (c33 : w1.cell? ⟨b3, 3, none⟩ = some v33) (c34 : w1.cell? ⟨b3, 4, none⟩ = some v34) (c35 : w1.cell? ⟨b3, 5, none⟩ = some v35) (c36 : w1.cell? ⟨b3, 6, none⟩ = some v36) (c40 : w1.cell? ⟨b4, 0, none⟩ = some v40) (c41 : w1.cell? ⟨b4, 1, none⟩ = some v41) (c42 : w1.cell? ⟨b4, 2, none⟩ = some v42) (c43 : w1.cell? ⟨b4, 3, none⟩ = some v43) (c44 : w1.cell? ⟨b4, 4, none⟩ = some v44) (c45 : w1.cell? ⟨b4, 5, none⟩ = some v45) (c46 : w1.cell? ⟨b4, 6, none⟩ = some v46) (c50 : w1.cell? ⟨b5, 0, none⟩ = some v50) (c51 : w1.cell? ⟨b5, 1, none⟩ = some v51) (c52 : w1.cell? ⟨b5, 2, none⟩ = some v52) (c53 : w1.cell? ⟨b5, 3, none⟩ = some v53) (c54 : w1.cell? ⟨b5, 4, none⟩ = some v54) (c55 : w1.cell? ⟨b5, 5, none⟩ = some v55) (c56 : w1.cell? ⟨b5, 6, none⟩ = some v56) (l1 : b1 < w1.heap.size) (l2 : b2 < w1.heap.size) (l3 : b3 < w1.heap.size) (l4 : b4 < w1.heap.size) (l5 : b5 < w1.heap.size) (hB : Below w.heap.size w w1) :
    w2.cell? ⟨b1, 0, none⟩ = some v10 ∧ w2.cell? ⟨b1, 1, none⟩ = some v11 ∧ w2.cell? ⟨b1, 2, none⟩ = some v12 ∧ w2.cell? ⟨b1, 3, none⟩ = some v13 ∧ w2.cell? ⟨b1, 4, none⟩ = some v14 ∧ w2.cell? ⟨b1, 5, none⟩ = some v15 ∧ w2.cell? ⟨b1, 6, none⟩ = some v16 ∧ w2.cell? ⟨b2, 0, none⟩ = some v20 ∧ w2.cell? ⟨b2, 1, none⟩ = some v21 ∧ w2.cell? ⟨b2, 2, none⟩ = some v22 ∧ w2.cell? ⟨b2, 3, none⟩ = some v23 ∧ w2.cell? ⟨b2, 4, none⟩ = some v24 ∧ w2.cell? ⟨b2, 5, none⟩ = some v25 ∧ w2.cell? ⟨b2, 6, none⟩ = some v26 ∧ w2.cell? ⟨b3, 0, none⟩ = some v30 ∧ w2.cell? ⟨b3, 1, none⟩ = some v31 ∧ w2.cell? ⟨b3, 2, none⟩ = some v32 ∧ w2.cell? ⟨b3, 3, none⟩ = some v33 ∧ w2.cell? ⟨b3, 4, none⟩ = some v34 ∧ w2.cell? ⟨b3, 5, none⟩ = some v35 ∧ w2.cell? ⟨b3, 6, none⟩ = some v36 ∧ w2.cell? ⟨b4, 0, none⟩ = some v40 ∧ w2.cell? ⟨b4, 1, none⟩ = some v41 ∧ w2.cell? ⟨b4, 2, none⟩ = some v42 ∧ w2.cell? ⟨b4, 3, none⟩ = some v43 ∧ w2.cell? ⟨b4, 4, none⟩ = some v44 ∧ w2.cell? ⟨b4, 5, none⟩ = some v45 ∧ w2.cell? ⟨b4, 6, none⟩ = some v46 ∧ w2.cell? ⟨b5, 0, none⟩ = some v50 ∧ w2.cell? ⟨b5, 1, none⟩ = some v51 ∧ w2.cell? ⟨b5, 2, none⟩ = some v52 ∧ w2.cell? ⟨b5, 3, none⟩ = some v53 ∧ w2.cell? ⟨b5, 4, none⟩ = some v54 ∧ w2.cell? ⟨b5, 5, none⟩ = some v55 ∧ w2.cell? ⟨b5, 6, none⟩ = some v56 ∧ b1 < w2.heap.size ∧ b2 < w2.heap.size ∧ b3 < w2.heap.size ∧ b4 < w2.heap.size ∧ b5 < w2.heap.size ∧ Below w.heap.size w w2 :=
  ⟨(g.cell (p := ⟨b1, 0, none⟩) l1).trans c10, (g.cell (p := ⟨b1, 1, none⟩) l1).trans c11, (g.cell (p := ⟨b1, 2, none⟩) l1).trans c12, (g.cell (p := ⟨b1, 3, none⟩) l1).trans c13, (g.cell (p := ⟨b1, 4, none⟩) l1).trans c14, (g.cell (p := ⟨b1, 5, none⟩) l1).trans c15, (g.cell (p := ⟨b1, 6, none⟩) l1).trans c16, (g.cell (p := ⟨b2, 0, none⟩) l2).trans c20, (g.cell (p := ⟨b2, 1, none⟩) l2).trans c21, (g.cell (p := ⟨b2, 2, none⟩) l2).trans c22, (g.cell (p := ⟨b2, 3, none⟩) l2).trans c23, (g.cell (p := ⟨b2, 4, none⟩) l2).trans c24, (g.cell (p := ⟨b2, 5, none⟩) l2).trans c25, (g.cell (p := ⟨b2, 6, none⟩) l2).trans c26, (g.cell (p := ⟨b3, 0, none⟩) l3).trans c30, (g.cell (p := ⟨b3, 1, none⟩) l3).trans c31, (g.cell (p := ⟨b3, 2, none⟩) l3).trans c32, (g.cell (p := ⟨b3, 3, none⟩) l3).trans c33, (g.cell (p := ⟨b3, 4, none⟩) l3).trans c34, (g.cell (p := ⟨b3, 5, none⟩) l3).trans c35, (g.cell (p := ⟨b3, 6, none⟩) l3).trans c36, (g.cell (p := ⟨b4, 0, none⟩) l4).trans c40, (g.cell (p := ⟨b4, 1, none⟩) l4).trans c41, (g.cell (p := ⟨b4, 2, none⟩) l4).trans c42, (g.cell (p := ⟨b4, 3, none⟩) l4).trans c43, (g.cell (p := ⟨b4, 4, none⟩) l4).trans c44, (g.cell (p := ⟨b4, 5, none⟩) l4).trans c45, (g.cell (p := ⟨b4, 6, none⟩) l4).trans c46, (g.cell (p := ⟨b5, 0, none⟩) l5).trans c50, (g.cell (p := ⟨b5, 1, none⟩) l5).trans c51, (g.cell (p := ⟨b5, 2, none⟩) l5).trans c52, (g.cell (p := ⟨b5, 3, none⟩) l5).trans c53, (g.cell (p := ⟨b5, 4, none⟩) l5).trans c54, (g.cell (p := ⟨b5, 5, none⟩) l5).trans c55, (g.cell (p := ⟨b5, 6, none⟩) l5).trans c56, Nat.lt_of_lt_of_le l1 g.size, Nat.lt_of_lt_of_le l2 g.size, Nat.lt_of_lt_of_le l3 g.size, Nat.lt_of_lt_of_le l4 g.size, Nat.lt_of_lt_of_le l5 g.size, hB.trans (g.mono hB.size)⟩


theorem value_same (v : Va) (w' : World) : (Op.equalIn 10000 25 (valV v) (valV v)).run Tryz.prog w' = .ok true w' := by
  obtain ⟨k, n, r, g, b, c, t⟩ := v
  have := eq_value k n r g b c k n r g b c t t w'
  rw [Va.same_iff.2 rfl] at this
  exact this

theorem ok_short {v : Va} (h : valueOk v = true) : v.w.length ≤ 12 := by
  rcases valueOk_cases h with ⟨_, _, _, e⟩ | ⟨_, _, _, _, _, _, hw⟩ | ⟨_, _, hl, _⟩
  · rw [e]; simp
  · rw [hw]; simp
  · exact hl

theorem show_empty (v : Va) : showValue v = [] ↔ valueOk v = false := by
  constructor
  · intro h
    cases hv : valueOk v
    · rfl
    · unfold showValue at h
      rw [if_pos hv] at h
      exact absurd h (show_ne hv)
  · intro h
    unfold showValue
    rw [if_neg (by rw [h]; decide)]

theorem read_text {v : Va} (hv : valueOk v = true) : readToks (tokensOf (showValue v)) = some v := by
  have hl := D6.show_len v
  unfold tokensOf
  rw [if_neg (by omega)]
  unfold showValue
  rw [if_pos hv]
  exact read_show hv

theorem read_wide {v : Va} (hv : valueOk v = true) : readToks (tokensOf (32 :: (showValue v ++ [10]))) = some v := by
  have hl := D6.show_len v
  unfold tokensOf
  rw [if_neg (by simp; omega)]
  unfold showValue
  rw [if_pos hv]
  exact read_around hv

theorem toks_sm (s : List UInt8) (hl : s.length ≤ 100) : ∀ x ∈ tokensOf s, TokFit x := fun x hx => by
  obtain ⟨q1, q2, q3⟩ := D5.tokens_fit (s := s) x hx
  exact ⟨by omega, by omega, by omega⟩
set_option maxRecDepth 100000 in
set_option maxHeartbeats 8000000 in
theorem walk (a0 : Option Addr) (len0 cap0 : Nat) (w : World) (w0 : len0 ≤ 4096 → Bytes w w.heap.size a0 len0) (L : B5.Pow w) :
    Calls Tryz.prog 3 #[.slice a0 len0 cap0] w (Ans (.bool true) w) := by
  have HP := Lib.hid L
  clear L
  by_cases hbig : 4096 < len0
  · go_enter Tryz.func3, Tryz.ntmps3
    go_wp2
    go_ret
    exact ⟨rfl, Below.refl _ _⟩
  · have hb := w0 (by omega)
    clear w0
    go_enter Tryz.func3, Tryz.ntmps3
    go_wp2_with (first | (go_at_call 4; go_in) | fail)
    refine (D6.ShowValue_draw _ a0 len0 cap0 hb).mono ?_
    rintro e w1 ⟨v, rfl, hvl, g1⟩
    have HSI := Lib.hid (fun w' (hq : Below w.heap.size w w') => ShowValue_impl v w' (HP.out.on hq) (by omega))
    have HSS := Lib.hid (fun w' => ShowValue_spec v (by omega) w')
    have HVI := Lib.hid (fun w' (hq : Below w.heap.size w w') => ValueOk_impl v w' (HP.out.on hq) (by omega))
    have HVS := Lib.hid (fun w' => ValueOk_spec v w' (by omega))
    have HKI := Lib.hid (fun w' (hq : Below w.heap.size w w') => SameKind_impl v v (by omega) (by omega) w' (HP.out.on hq))
    have HE := Lib.hid (show_empty v)
    have HR1 := Lib.hid (fun h : valueOk v = true => read_text h)
    have HR2 := Lib.hid (fun h : valueOk v = true => read_wide h)
    have HKK := Lib.hid (show sameKind v v = valueOk v by unfold sameKind; simp)
    have heqV := fun w' => value_same v w'
    have hsl := D6.show_len v
    obtain ⟨s, es⟩ : ∃ s, showValue v = s := ⟨_, rfl⟩
    rw [es] at HSI HSS HE HR1 HR2 hsl
    rw [HKK.out] at HKI
    have HVV := Lib.hid (rfl : v = v)
    obtain ⟨O, eO⟩ : ∃ O, valueOk v = O := ⟨_, rfl⟩
    rw [eO] at HVI HVS HE HR1 HR2 HKI
    obtain ⟨vk, vn, vr, vg, vb, vc, vt⟩ := v
    unfold valV at HSI HSS HVI HVS HKI heqV ⊢
    dsimp only at HSI HSS HVI HVS HKI heqV hvl ⊢
    clear es eO HKK HVV
    have hv1 : LBlk (w1.alloc (.cells #[.int .i64 vk, .int .i64 vn, .int .i64 vr, .int .i64 vg, .int .i64 vb, .int .i64 vc, .string ⟨vt.toArray⟩] 25)) w1.heap.size [.int .i64 vk, .int .i64 vn, .int .i64 vr, .int .i64 vg, .int .i64 vb, .int .i64 vc, .string ⟨vt.toArray⟩] := LBlk.new w1 _ _
    have hB1 := g1.alloc g1.size (.cells #[.int .i64 vk, .int .i64 vn, .int .i64 vr, .int .i64 vg, .int .i64 vb, .int .i64 vc, .string ⟨vt.toArray⟩] 25)
    go_wp2_with fail
    generalize w1.alloc (.cells #[.int .i64 vk, .int .i64 vn, .int .i64 vr, .int .i64 vg, .int .i64 vb, .int .i64 vc, .string ⟨vt.toArray⟩] 25) = W1 at *
    generalize w1.heap.size = bv at *
    refine (HSI.out _ hB1).mono ?_
    rintro e w2 ⟨rfl, g2⟩
    have hv2 := hv1.below g2
    have hB2 := hB1.trans (g2.mono hB1.size)
    clear hv1
    go_wp2_with fail
    refine (D6.ReadValue_draw _ a0 len0 cap0 (hb.below hB2)).mono ?_
    rintro e w3 ⟨l, ts, rfl, hl3, htd, htn, g3⟩
    have hv3 := hv2.below g3
    have hB3 := hB2.trans (g3.mono hB2.size)
    have HTF := Lib.hid (show ∀ x ∈ ts, TokFit x from fun x hx => fit_of_sm (sm_of_d (htd x hx)))
    have HLI := Lib.hid (fun w' (hq : Below w3.heap.size w3 w') => ReadI_val ts l w' (HP.out.on (hB3.trans (hq.mono hB3.size))) (hl3.on hq) HTF.out (by omega))
    have HLS := Lib.hid (fun w' (hq : Below w3.heap.size w3 w') => ReadS_val ts l w' (hl3.on hq) HTF.out (by omega))
    unfold V6.Reads at HLI HLS
    have HX := Lib.hid (show (isVal ts = true → valueOk (P6.valOf ts) = true) ∧ (isVal ts = false → P6.valOf ts = Va.zero) by
      unfold isVal P6.valOf
      cases hr : readToks ts with
      | none => exact ⟨fun h => (by cases h), fun _ => rfl⟩
      | some y => exact ⟨fun _ => read_valueOk hr, fun h => (by cases h)⟩)
    have HXI := Lib.hid (fun w' (hq : Below w.heap.size w w') (hw : (P6.valOf ts).w.length ≤ 1048576) => ValueOk_impl (P6.valOf ts) w' (HP.out.on hq) hw)
    have heqX := fun w' => value_same (P6.valOf ts) w'
    obtain ⟨x, ex⟩ : ∃ x, P6.valOf ts = x := ⟨_, rfl⟩
    obtain ⟨I, eI⟩ : ∃ I, isVal ts = I := ⟨_, rfl⟩
    rw [ex, eI] at HLI HLS HX
    rw [ex] at HXI heqX
    obtain ⟨ad, cp, rfl, _⟩ := TokVal.form hl3
    generalize ts.length = m at *
    clear ex eI htd hl3 HTF hv2
    obtain ⟨xk, xn, xr, xg, xb, xc, xt⟩ := x
    unfold valV at HLI HLS HXI heqX
    dsimp only at HLI HLS HXI heqX
    go_wp2_with fail
    refine (HLI.out _ (Below.refl _ _)).mono ?_
    rintro e w4 ⟨rfl, g4⟩
    have hv4 := (hv3.below g4).alloc (.cells #[.int .i64 xk, .int .i64 xn, .int .i64 xr, .int .i64 xg, .int .i64 xb, .int .i64 xc, .string ⟨xt.toArray⟩] 25)
    have hx4 : LBlk (w4.alloc (.cells #[.int .i64 xk, .int .i64 xn, .int .i64 xr, .int .i64 xg, .int .i64 xb, .int .i64 xc, .string ⟨xt.toArray⟩] 25)) w4.heap.size [.int .i64 xk, .int .i64 xn, .int .i64 xr, .int .i64 xg, .int .i64 xb, .int .i64 xc, .string ⟨xt.toArray⟩] := LBlk.new w4 _ _
    have hB4a := hB3.trans (g4.mono hB3.size)
    have hB4 := hB4a.alloc hB4a.size (.cells #[.int .i64 xk, .int .i64 xn, .int .i64 xr, .int .i64 xg, .int .i64 xb, .int .i64 xc, .string ⟨xt.toArray⟩] 25)
    have g34 := g4.alloc g4.size (.cells #[.int .i64 xk, .int .i64 xn, .int .i64 xr, .int .i64 xg, .int .i64 xb, .int .i64 xc, .string ⟨xt.toArray⟩] 25)
    clear hv3 hB4a
    go_wp2_with fail
    generalize w4.alloc (.cells #[.int .i64 xk, .int .i64 xn, .int .i64 xr, .int .i64 xg, .int .i64 xb, .int .i64 xc, .string ⟨xt.toArray⟩] 25) = W4 at *
    generalize w4.heap.size = bx at *
    refine (D6.SameKind_draw _ a0 len0 cap0 (hb.below hB4)).mono ?_
    rintro e w5 ⟨p, q, rfl, hpl, hql, g5⟩
    have HKS := Lib.hid (fun w' => SameKind_spec p q (by omega) (by omega) w')
    have HKJ := Lib.hid (fun w' (hq : Below w.heap.size w w') => SameKind_impl p q (by omega) (by omega) w' (HP.out.on hq))
    generalize sameKind p q = K at HKS HKJ
    obtain ⟨pk, pn, pr, pg, pb, pc, pt⟩ := p
    obtain ⟨qk, qn, qr, qg, qb, qc, qt⟩ := q
    unfold valV at HKS HKJ ⊢
    dsimp only at HKS HKJ ⊢
    have hv5 := ((hv4.below g5).alloc (.cells #[.int .i64 pk, .int .i64 pn, .int .i64 pr, .int .i64 pg, .int .i64 pb, .int .i64 pc, .string ⟨pt.toArray⟩] 25)).alloc (.cells #[.int .i64 qk, .int .i64 qn, .int .i64 qr, .int .i64 qg, .int .i64 qb, .int .i64 qc, .string ⟨qt.toArray⟩] 25)
    have hx5 := ((hx4.below g5).alloc (.cells #[.int .i64 pk, .int .i64 pn, .int .i64 pr, .int .i64 pg, .int .i64 pb, .int .i64 pc, .string ⟨pt.toArray⟩] 25)).alloc (.cells #[.int .i64 qk, .int .i64 qn, .int .i64 qr, .int .i64 qg, .int .i64 qb, .int .i64 qc, .string ⟨qt.toArray⟩] 25)
    have ha5 := (show LBlk (w5.alloc (.cells #[.int .i64 pk, .int .i64 pn, .int .i64 pr, .int .i64 pg, .int .i64 pb, .int .i64 pc, .string ⟨pt.toArray⟩] 25)) w5.heap.size [.int .i64 pk, .int .i64 pn, .int .i64 pr, .int .i64 pg, .int .i64 pb, .int .i64 pc, .string ⟨pt.toArray⟩] from LBlk.new w5 _ _).alloc (.cells #[.int .i64 qk, .int .i64 qn, .int .i64 qr, .int .i64 qg, .int .i64 qb, .int .i64 qc, .string ⟨qt.toArray⟩] 25)
    have hb5 : LBlk ((w5.alloc (.cells #[.int .i64 pk, .int .i64 pn, .int .i64 pr, .int .i64 pg, .int .i64 pb, .int .i64 pc, .string ⟨pt.toArray⟩] 25)).alloc (.cells #[.int .i64 qk, .int .i64 qn, .int .i64 qr, .int .i64 qg, .int .i64 qb, .int .i64 qc, .string ⟨qt.toArray⟩] 25)) (w5.heap.size + 1) [.int .i64 qk, .int .i64 qn, .int .i64 qr, .int .i64 qg, .int .i64 qb, .int .i64 qc, .string ⟨qt.toArray⟩] := by
      have := LBlk.new (w5.alloc (.cells #[.int .i64 pk, .int .i64 pn, .int .i64 pr, .int .i64 pg, .int .i64 pb, .int .i64 pc, .string ⟨pt.toArray⟩] 25)) [.int .i64 qk, .int .i64 qn, .int .i64 qr, .int .i64 qg, .int .i64 qb, .int .i64 qc, .string ⟨qt.toArray⟩] 25
      rwa [World.size_alloc] at this
    have hB5a := hB4.trans (g5.mono hB4.size)
    have hB5b := hB5a.alloc hB5a.size (.cells #[.int .i64 pk, .int .i64 pn, .int .i64 pr, .int .i64 pg, .int .i64 pb, .int .i64 pc, .string ⟨pt.toArray⟩] 25)
    have hB5 := hB5b.alloc hB5b.size (.cells #[.int .i64 qk, .int .i64 qn, .int .i64 qr, .int .i64 qg, .int .i64 qb, .int .i64 qc, .string ⟨qt.toArray⟩] 25)
    have g35a := g34.trans (g5.mono g34.size)
    have g35b := g35a.alloc g35a.size (.cells #[.int .i64 pk, .int .i64 pn, .int .i64 pr, .int .i64 pg, .int .i64 pb, .int .i64 pc, .string ⟨pt.toArray⟩] 25)
    have g35 := g35b.alloc g35b.size (.cells #[.int .i64 qk, .int .i64 qn, .int .i64 qr, .int .i64 qg, .int .i64 qb, .int .i64 qc, .string ⟨qt.toArray⟩] 25)
    clear hv4 hx4 hB5a hB5b g35a g35b g34 hpl hql
    go_wp2_with fail
    generalize (w5.alloc (.cells #[.int .i64 pk, .int .i64 pn, .int .i64 pr, .int .i64 pg, .int .i64 pb, .int .i64 pc, .string ⟨pt.toArray⟩] 25)).alloc (.cells #[.int .i64 qk, .int .i64 qn, .int .i64 qr, .int .i64 qg, .int .i64 qb, .int .i64 qc, .string ⟨qt.toArray⟩] 25) = W5 at *
    generalize w5.heap.size = ba at *
    refine (HLS.out _ g35).mono ?_
    rintro e w6 ⟨rfl, g6⟩
    have hv6 := (hv5.below g6).alloc (.cells #[.int .i64 xk, .int .i64 xn, .int .i64 xr, .int .i64 xg, .int .i64 xb, .int .i64 xc, .string ⟨xt.toArray⟩] 25)
    have hx6 := (hx5.below g6).alloc (.cells #[.int .i64 xk, .int .i64 xn, .int .i64 xr, .int .i64 xg, .int .i64 xb, .int .i64 xc, .string ⟨xt.toArray⟩] 25)
    have ha6 := (ha5.below g6).alloc (.cells #[.int .i64 xk, .int .i64 xn, .int .i64 xr, .int .i64 xg, .int .i64 xb, .int .i64 xc, .string ⟨xt.toArray⟩] 25)
    have hb6 := (hb5.below g6).alloc (.cells #[.int .i64 xk, .int .i64 xn, .int .i64 xr, .int .i64 xg, .int .i64 xb, .int .i64 xc, .string ⟨xt.toArray⟩] 25)
    have hy6 : LBlk (w6.alloc (.cells #[.int .i64 xk, .int .i64 xn, .int .i64 xr, .int .i64 xg, .int .i64 xb, .int .i64 xc, .string ⟨xt.toArray⟩] 25)) w6.heap.size [.int .i64 xk, .int .i64 xn, .int .i64 xr, .int .i64 xg, .int .i64 xb, .int .i64 xc, .string ⟨xt.toArray⟩] := LBlk.new w6 _ _
    have hB6a := hB5.trans (g6.mono hB5.size)
    have hB6 := hB6a.alloc hB6a.size (.cells #[.int .i64 xk, .int .i64 xn, .int .i64 xr, .int .i64 xg, .int .i64 xb, .int .i64 xc, .string ⟨xt.toArray⟩] 25)
    clear hv5 hx5 ha5 hb5 hB6a g35
    go_wp2_with fail
    generalize w6.alloc (.cells #[.int .i64 xk, .int .i64 xn, .int .i64 xr, .int .i64 xg, .int .i64 xb, .int .i64 xc, .string ⟨xt.toArray⟩] 25) = W6 at *
    generalize w6.heap.size = by' at *
    generalize ba + 1 = bb at *
    obtain ⟨c0, c1, c2, c3, c4, c5, c6, _⟩ := seven_cells hv6
    obtain ⟨d0, d1, d2, d3, d4, d5, d6, _⟩ := seven_cells hx6
    obtain ⟨e0, e1, e2, e3, e4, e5, e6, _⟩ := seven_cells ha6
    obtain ⟨f0, f1, f2, f3, f4, f5, f6, _⟩ := seven_cells hb6
    obtain ⟨y0, y1, y2, y3, y4, y5, y6, _⟩ := seven_cells hy6
    have l1 := hv6.1
    have l2 := hx6.1
    have l3 := ha6.1
    have l4 := hb6.1
    have l5 := hy6.1
    have hss : (s == s) = true := by simp
    clear hv6 hx6 ha6 hb6 hy6
    go_region_held3 (fun w' => w'.cell? ⟨bv, 0, none⟩ = some (.int .i64 vk) ∧ w'.cell? ⟨bv, 1, none⟩ = some (.int .i64 vn) ∧ w'.cell? ⟨bv, 2, none⟩ = some (.int .i64 vr) ∧ w'.cell? ⟨bv, 3, none⟩ = some (.int .i64 vg) ∧ w'.cell? ⟨bv, 4, none⟩ = some (.int .i64 vb) ∧ w'.cell? ⟨bv, 5, none⟩ = some (.int .i64 vc) ∧ w'.cell? ⟨bv, 6, none⟩ = some (.string ⟨vt.toArray⟩) ∧ w'.cell? ⟨bx, 0, none⟩ = some (.int .i64 xk) ∧ w'.cell? ⟨bx, 1, none⟩ = some (.int .i64 xn) ∧ w'.cell? ⟨bx, 2, none⟩ = some (.int .i64 xr) ∧ w'.cell? ⟨bx, 3, none⟩ = some (.int .i64 xg) ∧ w'.cell? ⟨bx, 4, none⟩ = some (.int .i64 xb) ∧ w'.cell? ⟨bx, 5, none⟩ = some (.int .i64 xc) ∧ w'.cell? ⟨bx, 6, none⟩ = some (.string ⟨xt.toArray⟩) ∧ w'.cell? ⟨ba, 0, none⟩ = some (.int .i64 pk) ∧ w'.cell? ⟨ba, 1, none⟩ = some (.int .i64 pn) ∧ w'.cell? ⟨ba, 2, none⟩ = some (.int .i64 pr) ∧ w'.cell? ⟨ba, 3, none⟩ = some (.int .i64 pg) ∧ w'.cell? ⟨ba, 4, none⟩ = some (.int .i64 pb) ∧ w'.cell? ⟨ba, 5, none⟩ = some (.int .i64 pc) ∧ w'.cell? ⟨ba, 6, none⟩ = some (.string ⟨pt.toArray⟩) ∧ w'.cell? ⟨bb, 0, none⟩ = some (.int .i64 qk) ∧ w'.cell? ⟨bb, 1, none⟩ = some (.int .i64 qn) ∧ w'.cell? ⟨bb, 2, none⟩ = some (.int .i64 qr) ∧ w'.cell? ⟨bb, 3, none⟩ = some (.int .i64 qg) ∧ w'.cell? ⟨bb, 4, none⟩ = some (.int .i64 qb) ∧ w'.cell? ⟨bb, 5, none⟩ = some (.int .i64 qc) ∧ w'.cell? ⟨bb, 6, none⟩ = some (.string ⟨qt.toArray⟩) ∧ w'.cell? ⟨by', 0, none⟩ = some (.int .i64 xk) ∧ w'.cell? ⟨by', 1, none⟩ = some (.int .i64 xn) ∧ w'.cell? ⟨by', 2, none⟩ = some (.int .i64 xr) ∧ w'.cell? ⟨by', 3, none⟩ = some (.int .i64 xg) ∧ w'.cell? ⟨by', 4, none⟩ = some (.int .i64 xb) ∧ w'.cell? ⟨by', 5, none⟩ = some (.int .i64 xc) ∧ w'.cell? ⟨by', 6, none⟩ = some (.string ⟨xt.toArray⟩) ∧ bv < w'.heap.size ∧ bx < w'.heap.size ∧ ba < w'.heap.size ∧ bb < w'.heap.size ∧ by' < w'.heap.size ∧ Below w.heap.size w w')
      (first | with_reducible exact heldV_drew c0 c1 c2 c3 c4 c5 c6 d0 d1 d2 d3 d4 d5 d6 e0 e1 e2 e3 e4 e5 e6 f0 f1 f2 f3 f4 f5 f6 y0 y1 y2 y3 y4 y5 y6 l1 l2 l3 l4 l5 hB6 | (go_split_ands; (try go_split_ands); with_reducible exact heldV_call hb' (by assumption) (by assumption) (by assumption) (by assumption) (by assumption) (by assumption) (by assumption) (by assumption) (by assumption) (by assumption) (by assumption) (by assumption) (by assumption) (by assumption) (by assumption) (by assumption) (by assumption) (by assumption) (by assumption) (by assumption) (by assumption) (by assumption) (by assumption) (by assumption) (by assumption) (by assumption) (by assumption) (by assumption) (by assumption) (by assumption) (by assumption) (by assumption) (by assumption) (by assumption) (by assumption) (by assumption) (by assumption) (by assumption) (by assumption) (by assumption) (by assumption)))
      (first | (go_at_call 11; refine (HSS.out _).mono ?_; rintro e w' ⟨rfl, hb'⟩) | (go_at_call 12; refine (HVI.out _ (by go_split_ands; (try go_split_ands); assumption)).mono ?_; rintro e w' ⟨rfl, hb'⟩) | (go_at_call 13; refine (HVS.out _).mono ?_; rintro e w' ⟨rfl, hb'⟩) | (go_at_call 14; refine (HKJ.out _ (by go_split_ands; (try go_split_ands); assumption)).mono ?_; rintro e w' ⟨rfl, hb'⟩) | (go_at_call 15; refine (HKS.out _).mono ?_; rintro e w' ⟨rfl, hb'⟩))
    rename_i hS
    clear c0 c1 c2 c3 c4 c5 c6 d0 d1 d2 d3 d4 d5 d6 e0 e1 e2 e3 e4 e5 e6 f0 f1 f2 f3 f4 f5 f6 y0 y1 y2 y3 y4 y5 y6 l1 l2 l3 l4 l5 hB6
    obtain ⟨c0, c1, c2, c3, c4, c5, c6, d0, d1, d2, d3, d4, d5, d6, _, _, _, _, _, _, _, _, _, _, _, _, _, _, _, _, _, _, _, _, _, l1, l2, _, _, _, hB7⟩ := hS
    clear HSI HSS HVS HKS HKJ HLI HLS hss
    cases I
    · have hxz := HX.out.2 rfl
      unfold Va.zero at hxz
      cases hxz
      have hBt := hB7
      clear HX HXI hB7
      by_cases hs0 : s = []
      · obtain rfl : O = false := HE.out.1 hs0
        have se : (s == []) = true := str_same hs0
        clear hs0
        go_wp2_with (go_at_call 12; refine (HVI.out _ hBt).mono ?_; rintro e wz ⟨rfl, gz⟩)
        go_ret
        exact ⟨rfl, hBt.trans (gz.mono hBt.size)⟩
      · have se : (s == []) = false := str_other hs0
        cases O
        · exact absurd (HE.out.2 rfl) hs0
        have hrs1 := reads_some (HR1.out rfl)
        have hrs2 := reads_some (HR2.out rfl)
        have hfew1 := D5.tokens_few s
        have hfew2 := D5.tokens_few (32 :: (s ++ [10]))
        have hln2 : (32 :: (s ++ [10])).length ≤ 40 := by simp; omega
        have HT1 := Lib.hid (fun w' => TokensOf_spec s w' (by omega))
        have HT2 := Lib.hid (fun w' => TokensOf_spec (32 :: (s ++ [10])) w' (by omega))
        have HQ1 := Lib.hid (fun va w' (hq : Below w.heap.size w w') (hv : TokVal w' va (tokensOf s)) => ReadI_val (tokensOf s) va w' (HP.out.on hq) hv (toks_sm s (by omega)) (by omega))
        have HQ2 := Lib.hid (fun va w' (hq : Below w.heap.size w w') (hv : TokVal w' va (tokensOf (32 :: (s ++ [10])))) => ReadI_val (tokensOf (32 :: (s ++ [10]))) va w' (HP.out.on hq) hv (toks_sm _ (by omega)) (by omega))
        unfold B5.Tokens at HT1 HT2
        unfold V6.Reads at HQ1 HQ2
        rw [hrs1.1, hrs1.2] at HQ1
        rw [hrs2.1, hrs2.2] at HQ2
        unfold valV at HQ1 HQ2
        dsimp only at HQ1 HQ2
        have hadd1 := str_addT [32] s (32 :: s) rfl (by simp; omega)
        have hadd2 := str_addT (32 :: s) [10] (32 :: (s ++ [10])) rfl (by omega)
        generalize tokensOf s = t1 at *
        generalize tokensOf (32 :: (s ++ [10])) = t2 at *
        generalize 32 :: (s ++ [10]) = s2 at *
        generalize 32 :: s = s1 at *
        clear hs0 hrs1 hrs2 hfew1 hfew2 hln2 HR1 HR2 HE
        go_wp2_with fail
        refine (HT1.out _).mono ?_
        rintro e wa ⟨va, rfl, hva, ga⟩
        obtain ⟨z0, z1, z2, z3, z4, z5, z6, lz, hBa⟩ := held7_call ga c0 c1 c2 c3 c4 c5 c6 l1 hBt
        clear c0 c1 c2 c3 c4 c5 c6 l1 hBt ga
        have HVA := Lib.hid (Toks.val hva)
        obtain ⟨aa, ca, rfl⟩ := toks_form hva
        clear hva
        go_wp2_with fail
        refine (HQ1.out _ _ hBa HVA.out).mono ?_
        rintro e wb ⟨rfl, gb⟩
        obtain ⟨u0, u1, u2, u3, u4, u5, u6, lu, hBb0⟩ := held7_call gb z0 z1 z2 z3 z4 z5 z6 lz hBa
        obtain ⟨c0, c1, c2, c3, c4, c5, c6, l1, hBb⟩ := held7_call (show Below wb.heap.size wb (wb.alloc (.cells #[.int .i64 vk, .int .i64 vn, .int .i64 vr, .int .i64 vg, .int .i64 vb, .int .i64 vc, .string ⟨vt.toArray⟩] 25)) from (Below.refl _ _).alloc (Nat.le_refl _) _) u0 u1 u2 u3 u4 u5 u6 lu hBb0
        have hy1 : LBlk (wb.alloc (.cells #[.int .i64 vk, .int .i64 vn, .int .i64 vr, .int .i64 vg, .int .i64 vb, .int .i64 vc, .string ⟨vt.toArray⟩] 25)) wb.heap.size [.int .i64 vk, .int .i64 vn, .int .i64 vr, .int .i64 vg, .int .i64 vb, .int .i64 vc, .string ⟨vt.toArray⟩] := LBlk.new wb _ _
        clear z0 z1 z2 z3 z4 z5 z6 lz hBa gb hBb0 u0 u1 u2 u3 u4 u5 u6 lu
        go_wp2_with fail
        generalize wb.alloc (.cells #[.int .i64 vk, .int .i64 vn, .int .i64 vr, .int .i64 vg, .int .i64 vb, .int .i64 vc, .string ⟨vt.toArray⟩] 25) = Wb at *
        generalize wb.heap.size = b12 at *
        refine (HT2.out _).mono ?_
        rintro e wc ⟨vc', rfl, hvc, gc⟩
        obtain ⟨z0, z1, z2, z3, z4, z5, z6, lz, hBc⟩ := held7_call gc c0 c1 c2 c3 c4 c5 c6 l1 hBb
        have hy2 := hy1.below gc
        clear c0 c1 c2 c3 c4 c5 c6 l1 hBb gc hy1
        have HVC := Lib.hid (Toks.val hvc)
        obtain ⟨ac, cc, rfl⟩ := toks_form hvc
        clear hvc
        go_wp2_with fail
        refine (HQ2.out _ _ hBc HVC.out).mono ?_
        rintro e wd ⟨rfl, gd⟩
        obtain ⟨u0, u1, u2, u3, u4, u5, u6, lu, hBd0⟩ := held7_call gd z0 z1 z2 z3 z4 z5 z6 lz hBc
        obtain ⟨c0, c1, c2, c3, c4, c5, c6, l1, hBd⟩ := held7_call (show Below wd.heap.size wd (wd.alloc (.cells #[.int .i64 vk, .int .i64 vn, .int .i64 vr, .int .i64 vg, .int .i64 vb, .int .i64 vc, .string ⟨vt.toArray⟩] 25)) from (Below.refl _ _).alloc (Nat.le_refl _) _) u0 u1 u2 u3 u4 u5 u6 lu hBd0
        have hy3 := (hy2.below gd).alloc (.cells #[.int .i64 vk, .int .i64 vn, .int .i64 vr, .int .i64 vg, .int .i64 vb, .int .i64 vc, .string ⟨vt.toArray⟩] 25)
        have hz3 : LBlk (wd.alloc (.cells #[.int .i64 vk, .int .i64 vn, .int .i64 vr, .int .i64 vg, .int .i64 vb, .int .i64 vc, .string ⟨vt.toArray⟩] 25)) wd.heap.size [.int .i64 vk, .int .i64 vn, .int .i64 vr, .int .i64 vg, .int .i64 vb, .int .i64 vc, .string ⟨vt.toArray⟩] := LBlk.new wd _ _
        clear z0 z1 z2 z3 z4 z5 z6 lz hBc gd hBd0 hy2 u0 u1 u2 u3 u4 u5 u6 lu
        obtain ⟨y0, y1, y2, y3, y4, y5, y6, _⟩ := seven_cells hy3
        obtain ⟨z0, z1, z2, z3, z4, z5, z6, _⟩ := seven_cells hz3
        go_wp2_with (go_at_call 14; refine (HKI.out _ hBd).mono ?_; rintro e wz ⟨rfl, gz⟩)
        go_ret
        exact ⟨rfl, hBd.trans (gz.mono hBd.size)⟩
    · have hxo := HX.out.1 rfl
      have hxw : xt.length ≤ 1048576 := by have := ok_short hxo; dsimp only at this; omega
      rw [hxo] at HXI
      have HXJ := Lib.hid (fun w' (hq : Below w.heap.size w w') => HXI.out w' hq hxw)
      clear HX HXI hxo hxw
      go_wp2_with fail
      refine (HXJ.out _ hB7).mono ?_
      rintro e w8 ⟨rfl, g8⟩
      obtain ⟨z0, z1, z2, z3, z4, z5, z6, lz, hBt⟩ := held7_call g8 c0 c1 c2 c3 c4 c5 c6 l1 hB7
      clear c0 c1 c2 c3 c4 c5 c6 d0 d1 d2 d3 d4 d5 d6 l1 l2 hB7 g8
      obtain ⟨c0, c1, c2, c3, c4, c5, c6, l1, hBt⟩ := (⟨z0, z1, z2, z3, z4, z5, z6, lz, hBt⟩ : _ ∧ _ ∧ _ ∧ _ ∧ _ ∧ _ ∧ _ ∧ _ ∧ _)
      by_cases hs0 : s = []
      · obtain rfl : O = false := HE.out.1 hs0
        have se : (s == []) = true := str_same hs0
        clear hs0
        go_wp2_with (go_at_call 12; refine (HVI.out _ hBt).mono ?_; rintro e wz ⟨rfl, gz⟩)
        go_ret
        exact ⟨rfl, hBt.trans (gz.mono hBt.size)⟩
      · have se : (s == []) = false := str_other hs0
        cases O
        · exact absurd (HE.out.2 rfl) hs0
        have hrs1 := reads_some (HR1.out rfl)
        have hrs2 := reads_some (HR2.out rfl)
        have hfew1 := D5.tokens_few s
        have hfew2 := D5.tokens_few (32 :: (s ++ [10]))
        have hln2 : (32 :: (s ++ [10])).length ≤ 40 := by simp; omega
        have HT1 := Lib.hid (fun w' => TokensOf_spec s w' (by omega))
        have HT2 := Lib.hid (fun w' => TokensOf_spec (32 :: (s ++ [10])) w' (by omega))
        have HQ1 := Lib.hid (fun va w' (hq : Below w.heap.size w w') (hv : TokVal w' va (tokensOf s)) => ReadI_val (tokensOf s) va w' (HP.out.on hq) hv (toks_sm s (by omega)) (by omega))
        have HQ2 := Lib.hid (fun va w' (hq : Below w.heap.size w w') (hv : TokVal w' va (tokensOf (32 :: (s ++ [10])))) => ReadI_val (tokensOf (32 :: (s ++ [10]))) va w' (HP.out.on hq) hv (toks_sm _ (by omega)) (by omega))
        unfold B5.Tokens at HT1 HT2
        unfold V6.Reads at HQ1 HQ2
        rw [hrs1.1, hrs1.2] at HQ1
        rw [hrs2.1, hrs2.2] at HQ2
        unfold valV at HQ1 HQ2
        dsimp only at HQ1 HQ2
        have hadd1 := str_addT [32] s (32 :: s) rfl (by simp; omega)
        have hadd2 := str_addT (32 :: s) [10] (32 :: (s ++ [10])) rfl (by omega)
        generalize tokensOf s = t1 at *
        generalize tokensOf (32 :: (s ++ [10])) = t2 at *
        generalize 32 :: (s ++ [10]) = s2 at *
        generalize 32 :: s = s1 at *
        clear hs0 hrs1 hrs2 hfew1 hfew2 hln2 HR1 HR2 HE
        go_wp2_with fail
        refine (HT1.out _).mono ?_
        rintro e wa ⟨va, rfl, hva, ga⟩
        obtain ⟨z0, z1, z2, z3, z4, z5, z6, lz, hBa⟩ := held7_call ga c0 c1 c2 c3 c4 c5 c6 l1 hBt
        clear c0 c1 c2 c3 c4 c5 c6 l1 hBt ga
        have HVA := Lib.hid (Toks.val hva)
        obtain ⟨aa, ca, rfl⟩ := toks_form hva
        clear hva
        go_wp2_with fail
        refine (HQ1.out _ _ hBa HVA.out).mono ?_
        rintro e wb ⟨rfl, gb⟩
        obtain ⟨u0, u1, u2, u3, u4, u5, u6, lu, hBb0⟩ := held7_call gb z0 z1 z2 z3 z4 z5 z6 lz hBa
        obtain ⟨c0, c1, c2, c3, c4, c5, c6, l1, hBb⟩ := held7_call (show Below wb.heap.size wb (wb.alloc (.cells #[.int .i64 vk, .int .i64 vn, .int .i64 vr, .int .i64 vg, .int .i64 vb, .int .i64 vc, .string ⟨vt.toArray⟩] 25)) from (Below.refl _ _).alloc (Nat.le_refl _) _) u0 u1 u2 u3 u4 u5 u6 lu hBb0
        have hy1 : LBlk (wb.alloc (.cells #[.int .i64 vk, .int .i64 vn, .int .i64 vr, .int .i64 vg, .int .i64 vb, .int .i64 vc, .string ⟨vt.toArray⟩] 25)) wb.heap.size [.int .i64 vk, .int .i64 vn, .int .i64 vr, .int .i64 vg, .int .i64 vb, .int .i64 vc, .string ⟨vt.toArray⟩] := LBlk.new wb _ _
        clear z0 z1 z2 z3 z4 z5 z6 lz hBa gb hBb0 u0 u1 u2 u3 u4 u5 u6 lu
        go_wp2_with fail
        generalize wb.alloc (.cells #[.int .i64 vk, .int .i64 vn, .int .i64 vr, .int .i64 vg, .int .i64 vb, .int .i64 vc, .string ⟨vt.toArray⟩] 25) = Wb at *
        generalize wb.heap.size = b12 at *
        refine (HT2.out _).mono ?_
        rintro e wc ⟨vc', rfl, hvc, gc⟩
        obtain ⟨z0, z1, z2, z3, z4, z5, z6, lz, hBc⟩ := held7_call gc c0 c1 c2 c3 c4 c5 c6 l1 hBb
        have hy2 := hy1.below gc
        clear c0 c1 c2 c3 c4 c5 c6 l1 hBb gc hy1
        have HVC := Lib.hid (Toks.val hvc)
        obtain ⟨ac, cc, rfl⟩ := toks_form hvc
        clear hvc
        go_wp2_with fail
        refine (HQ2.out _ _ hBc HVC.out).mono ?_
        rintro e wd ⟨rfl, gd⟩
        obtain ⟨u0, u1, u2, u3, u4, u5, u6, lu, hBd0⟩ := held7_call gd z0 z1 z2 z3 z4 z5 z6 lz hBc
        obtain ⟨c0, c1, c2, c3, c4, c5, c6, l1, hBd⟩ := held7_call (show Below wd.heap.size wd (wd.alloc (.cells #[.int .i64 vk, .int .i64 vn, .int .i64 vr, .int .i64 vg, .int .i64 vb, .int .i64 vc, .string ⟨vt.toArray⟩] 25)) from (Below.refl _ _).alloc (Nat.le_refl _) _) u0 u1 u2 u3 u4 u5 u6 lu hBd0
        have hy3 := (hy2.below gd).alloc (.cells #[.int .i64 vk, .int .i64 vn, .int .i64 vr, .int .i64 vg, .int .i64 vb, .int .i64 vc, .string ⟨vt.toArray⟩] 25)
        have hz3 : LBlk (wd.alloc (.cells #[.int .i64 vk, .int .i64 vn, .int .i64 vr, .int .i64 vg, .int .i64 vb, .int .i64 vc, .string ⟨vt.toArray⟩] 25)) wd.heap.size [.int .i64 vk, .int .i64 vn, .int .i64 vr, .int .i64 vg, .int .i64 vb, .int .i64 vc, .string ⟨vt.toArray⟩] := LBlk.new wd _ _
        clear z0 z1 z2 z3 z4 z5 z6 lz hBc gd hBd0 hy2 u0 u1 u2 u3 u4 u5 u6 lu
        obtain ⟨y0, y1, y2, y3, y4, y5, y6, _⟩ := seven_cells hy3
        obtain ⟨z0, z1, z2, z3, z4, z5, z6, _⟩ := seven_cells hz3
        go_wp2_with (go_at_call 14; refine (HKI.out _ hBd).mono ?_; rintro e wz ⟨rfl, gz⟩)
        go_ret
        exact ⟨rfl, hBd.trans (gz.mono hBd.size)⟩

set_option maxRecDepth 100000 in
theorem lifted (os : Os) (started : os.Started) (H : Type) (enc : TypeId × Value → H) :
    ReturnsInHanded {} Tryz.checked os 3 .any (fun w args => (Rows.fnValuesSpec.pre enc Tryz.prog Tryz.f3 Rows.fnValuesRow.domain false w args ∧ laidMetH Tryz.prog Rows.fnValuesRow.laid w) ∧ sizedMet enc Tryz.prog Tryz.f3 (OpenSpec.ofChange Rows.fnValuesSpec) false w args)
      (Rows.fnValuesSpec.post enc Tryz.prog Tryz.f3 false true false false) := by
  refine returnsInHanded_of_calls (C := Tryz.checked) own started (by kernel_rfl)
    (ChangeSpec.witness_shaped (enc := enc) (C := Tryz.checked) (os := os) (X := fun w _ => laidMetH Tryz.prog Rows.fnValuesRow.laid w) false (World.laidAll Tryz.prog os Rows.fnValuesRow.laid) #[.slice none 0 0] 8 (World.laidAll_os _ _ _)
      (World.shaped_of_ZipB (by kernel_rfl) (by kernel_rfl)) (by kernel_rfl) (by kernel_rfl) (by kernel_rfl)
      (by rw [MakeChecks.laidMetH_plain _ _ _ (by kernel_rfl)]; exact laidMet_laidAll _ (by kernel_rfl) (by kernel_rfl))) ?_
  intro w0 tape i _ hsh0 _ hok hpre _
  obtain ⟨_, _, _, fn', hfn', _, _, _, _, hval00⟩ := hok
  obtain rfl : fn' = Tryz.f3 := Option.some.inj (hfn'.symm.trans Tryz.func3)
  obtain ⟨⟨⟨ds, gs, before, hw, _⟩, hx⟩, _⟩ := hpre
  have hW0 := DataW.Whole.of_heap (w' := w0.forCall tape i) (by rfl) hw
  have hL0 : laidMetH Tryz.prog Rows.fnValuesRow.laid (w0.forCall tape i) := hx.of_heap (by rfl)
  suffices hgo : ∀ (W : World) (base : Nat) (args : Array Value), (∀ (j : Nat) t v, Tryz.f3.params[j]? = some t → args[j]? = some v → Value.okWide Tryz.prog W .any base t v) →
      DataW.Whole enc Tryz.prog Tryz.f3.params.toList Rows.fnValuesSpec.vars false W args.toList ds gs before → laidMetH Tryz.prog Rows.fnValuesRow.laid W → W.ShapedOpen Tryz.prog →
      Calls Tryz.prog 3 args W fun e W' => ∃ v, e = .returned v ∧ Rows.fnValuesSpec.post enc Tryz.prog Tryz.f3 false true false false W args v W' by
    refine (hgo _ _ _ hval00 hW0 hL0 hsh0).mono fun e W' ⟨v, he, hp⟩ => ?_
    subst he
    exact ChangeSpec.post_blind hp
  clear hsh0 hval00 hW0 hL0 hx hw hfn'
  intro W base args hval0 hW hL hsh
  have hval : ∀ (j : Nat) t v, Tryz.f3.params[j]? = some t → args[j]? = some v → Value.okWide Tryz.prog W .any base t v := hval0
  have hW' := hW
  obtain ⟨p, q, hA0, hV, rfl, hfz, hnd⟩ := hW
  have hA : DataW.TrodAll enc Tryz.prog W 0 (fun _ => true) true Tryz.f3.params.toList args.toList ds p := hA0
  rw [Tryz.params3] at hA hval
  obtain ⟨v0, vs0, d0, ds0, p0, q0, hargs, rfl, rfl, h0, r0⟩ := trodAll_cons hA
  obtain ⟨rfl, rfl, rfl⟩ := trodAll_nil r0
  obtain rfl : args = #[v0] := by cases args; simp_all
  obtain ⟨rfl, rfl⟩ := trodVars_none hV
  have k0 := h0
  have lt0 : ∀ x ∈ p0, x.block < W.heap.size := by obtain ⟨m, hm⟩ := k0; exact DataW.trod_lt m _ _ _ hm
  obtain ⟨a0, len0, cap0, rfl, w0⟩ := open_bytes (hval 0 22 v0 rfl rfl) h0
  refine (walk a0 len0 cap0 W w0 (laid_values hL)).mono fun e W' ⟨he, bel⟩ => ?_
  subst he
  exact ⟨_, rfl, _, _, _, [], _, [], hW', trodAll_mk1 (shut_bool Tryz.underlying4 _), (trodAll_cons_mk (Below.trod laidOut (by kernel_rfl) (of_decide_eq_true (by kernel_rfl)) k0 bel lt0) trodAll_mk0), rfl, bel.frame _, fun h => by cases h⟩

theorem over : Rows.fnValuesRow.holds Tryz.pinned (OpenSpec.ofChange Rows.fnValuesSpec) :=
  OpenClaim.holds_of_wide 3 Tryz.f3 rfl rfl rfl rfl rfl rfl rfl ⟨rfl, rfl, rfl, rfl, rfl⟩ rfl rfl rfl rfl rfl (by kernel_rfl) Tryz.func3 (by kernel_rfl)
    (of_decide_eq_true (by kernel_rfl)) (by unfold Func.isWrapper; first | (rw [if_pos (by decide +kernel)]; kernel_rfl) | (rw [if_neg (by decide +kernel)]; exact ⟨rfl, rfl⟩))
    (fun os started H enc _ => lifted os started H enc)

theorem proved : Rows.FnValuesCardSaid :=
  Claim7.holds_tied_plain_at .later [] [.data, .data, .data, .sentinel, .sentinel] true (true, "f794e8ea8b2962ec095d135972585ac8fbf772dc1c37a2aa1bd7b5ebbd65992d") true over (fun _ h => by cases h) (by kernel_rfl) (fun _ h => by cases h) fnValues_row_tie rfl ⟨rfl, rfl⟩ (by kernel_rfl) rfl
    (fun f fn hf hfn => by
      obtain rfl : f = 3 := Option.some.inj ((show Tryz.prog.funcNamed "loop.example/g00521/laws.FnValues" = some 3 by kernel_rfl).symm.trans hf) |>.symm
      obtain rfl : fn = Tryz.f3 := (Option.some.inj (Tryz.func3.symm.trans hfn)).symm
      exact ⟨by kernel_rfl, fun j t ht => by
        have hm : t ∈ Tryz.f3.params.toList := by simpa using Array.mem_of_getElem? ht
        have hall : (Tryz.f3.params.toList.all fun u => !Tryz.prog.wantsStandIn u) = true := by kernel_rfl
        exact (show Tryz.prog.wantsStandIn t = false by simpa using List.all_eq_true.1 hall t hm)⟩)
    (by kernel_rfl)
#print axioms proved
end Go.Proofs.YtnnpnimlnaflnaaGreatDoor.fnValues
