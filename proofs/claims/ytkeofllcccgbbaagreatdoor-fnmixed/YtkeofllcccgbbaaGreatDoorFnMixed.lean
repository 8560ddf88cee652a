/- Proved: for every slice of bytes FnMixed answers true: of what the bytes draw, mixed it is the one at 0, the other one at One, of their kind, and between them in between. No condition. -/
import Derived.Test.YtkeofllcccgbbaaGreatDoorDraw7c
import Derived.Test.YtkeofllcccgbbaaGreatDoorBase7n
import Derived.Test.YtkeofllcccgbbaaGreatDoorImp7e
import Derived.Test.YtkeofllcccgbbaaGreatDoorMade7
import Derived.Test.YtkeofllcccgbbaaGreatDoorDoor7
import Derived.Test.YtkeofllcccgbbaaGreatDoorOpenB
import Derived.Test.YtkeofllcccgbbaaGreatDoorInv
import Derived.Deep.RegionHeld3
import Derived.Test.YtkeofllcccgbbaaGreatDoorRows
import Derived.Test.YtkeofllcccgbbaaGreatDoorCards
import Derived.Test.YtkeofllcccgbbaaGreatDoorTie
import Derived.WalkKit
import Derived.ProofKit
import Derived.OpenShut
import Derived.ShutString
import Derived.ChangeOld
import Derived.Below
import Derived.OpenVars
import Derived.ChangeVars
import Derived.Handed
import Derived.Lay
import Derived.LaidLaws
import Derived.MakeChecks
import Derived.SevenTiedAt
import Derived.Stop.Joined
namespace Go.Proofs.YtkeofllcccgbbaaGreatDoor.fnMixed
open Go.ChangeShapes Go.WideShapes Go.ChangeAt Go.RowKit
open Go.ChangeMaps (open_string shut_string)
set_option linter.unusedVariables false

theorem own : ownKnob Tryz.prog.godebug = none := by kernel_rfl
theorem laidOut : laidOutB Tryz.prog = true := by kernel_rfl

open Go.Proofs.YtkeofllcccgbbaaGreatDoor.P1 Go.Proofs.YtkeofllcccgbbaaGreatDoor.B1 Go.Proofs.YtkeofllcccgbbaaGreatDoor.B2 Go.Proofs.YtkeofllcccgbbaaGreatDoor.T1 Go.Proofs.YtkeofllcccgbbaaGreatDoor.BT Go.Proofs.YtkeofllcccgbbaaGreatDoor.P5 Go.Proofs.YtkeofllcccgbbaaGreatDoor.P6 Go.Proofs.YtkeofllcccgbbaaGreatDoor.B5 Go.Proofs.YtkeofllcccgbbaaGreatDoor.B6 Go.Proofs.YtkeofllcccgbbaaGreatDoor.S7 Go.Proofs.YtkeofllcccgbbaaGreatDoor.V6 Go.Proofs.YtkeofllcccgbbaaGreatDoor.D1 Go.Proofs.YtkeofllcccgbbaaGreatDoor.V7 Go.Proofs.YtkeofllcccgbbaaGreatDoor.B7 Go.Proofs.YtkeofllcccgbbaaGreatDoor.RI
theorem mixed_len {x y : Va} (p : Int) (hx : x.w.length ≤ 100) (hy : y.w.length ≤ 100) : (P7.mixed x y p).w.length ≤ 100 := by
  unfold P7.mixed
  repeat' split
  all_goals first | assumption | (simp [Va.zero, P7.shownW])
set_option maxRecDepth 100000 in
set_option maxHeartbeats 4000000 in
theorem walk (A0 : Option Addr) (len0 cap0 : Nat) (w : World) (w0 : len0 ≤ 4096 → Bytes w w.heap.size A0 len0) (L : B5.Pow w) :
    Calls Tryz.prog 3 #[.slice A0 len0 cap0] w (Ans (.bool true) w) := by
  have HP := Lib.hid L
  clear L
  by_cases hbig : 4096 < len0
  · go_enter Tryz.func3, Tryz.ntmps3
    go_wp2
    go_ret
    exact ⟨rfl, Below.refl _ _⟩
  · have hb := w0 (by omega)
    clear w0
    go_enter Tryz.func3, Tryz.ntmps3
    go_wp2_with (first | (go_at_call 6; go_in) | fail)
    refine (D7.Mixed_draw _ A0 len0 cap0 hb).mono ?_
    rintro e w1 ⟨x, y, p, rfl, hxl, hyl, ⟨hp0, hp1⟩, g1⟩
    clear hb
    have HM := Lib.hid (fun p w' (hq : Below w.heap.size w w') => Mixed_impl x y p (by omega) (by omega) w' (HP.out.on hq))
    have HMS := Lib.hid (fun w' (hq : Below w.heap.size w w') => Mixed_impl x x p (by omega) (by omega) w' (HP.out.on hq))
    obtain ⟨z, ez⟩ : ∃ z, P7.mixed x y p = z := ⟨_, rfl⟩
    have hzl : z.w.length ≤ 100 := ez ▸ mixed_len p hxl hyl
    have HM1 := Lib.hid (fun w' hq => ez ▸ HM.out p w' hq)
    have HSM := Lib.hid (fun w' => ez ▸ Mixed_spec x y p (by omega) (by omega) w')
    have HSC := Lib.hid (fun w' => CanMix_spec x y (by omega) (by omega) w')
    have HC := Lib.hid (fun w' (hq : Below w.heap.size w w') => CanMix_impl x y (by omega) (by omega) w' (HP.out.on hq))
    have HC2 := Lib.hid (fun w' (hq : Below w.heap.size w w') => P7.can_sym y x ▸ CanMix_impl y x (by omega) (by omega) w' (HP.out.on hq))
    have HVx := Lib.hid (fun w' => ValueOk_spec x w' (by omega))
    have HVy := Lib.hid (fun w' => ValueOk_spec y w' (by omega))
    obtain ⟨C, eC⟩ : ∃ C, P7.canMix x y = C := ⟨_, rfl⟩
    rw [eC] at HSC HC HC2
    obtain ⟨OA, eOA⟩ : ∃ O, valueOk x = O := ⟨_, rfl⟩
    obtain ⟨OB, eOB⟩ : ∃ O, valueOk y = O := ⟨_, rfl⟩
    rw [eOA] at HVx
    rw [eOB] at HVy
    have hQ' := Q7.two w1 (D7.vl x) (D7.vl y) 25
    have hQ : Q7 w ((w1.alloc (.cells (D7.vl x).toArray 25)).alloc (.cells (D7.vl y).toArray 25)) w1.heap.size (w1.heap.size + 1) (D7.vl x) (D7.vl y) := ⟨hQ'.x, hQ'.y, g1.trans (hQ'.b.mono g1.size)⟩
    clear hQ' g1
    unfold valV at HM1 HVx HVy ⊢
    obtain ⟨q0, q1, q2, q3, q4, q5, q6, _⟩ := seven_cells hQ.x; obtain ⟨u0, u1, u2, u3, u4, u5, u6, _⟩ := seven_cells hQ.y
    unfold D7.vl at q0 q1 q2 q3 q4 q5 q6 u0 u1 u2 u3 u4 u5 u6
    go_upto_region 5 with (first | (go_at_call 8; refine (HM1.out _ hQ.b).mono ?_; rintro e wq ⟨rfl, hb'⟩; have hQ1 := Q7.call hQ hb'; clear hQ q0 q1 q2 q3 q4 q5 q6 u0 u1 u2 u3 u4 u5 u6))
    refine RI.region_det (by kernel_rfl) [valV z, valV x, valV y, .int .i64 p, valV z, .bool false, .bool false, valV x, valV y, .bool C, valV x, valV y, .bool C, .bool false, .bool false, .bool false, valV x, valV y, .bool C, valV y, valV x, .bool C, .bool false, .bool false] (fun W => QZ w W w1.heap.size (w1.heap.size + 1) wq.heap.size (D7.vl x) (D7.vl y) (D7.vl z)) (none :: none :: none :: none :: none :: none :: none :: none :: none :: none :: none :: none :: none :: none :: none :: none :: none :: none :: none :: some 0 :: some 1 :: some 2 :: some 3 :: some 4 :: some 5 :: some 6 :: some 7 :: some 8 :: some 9 :: some 10 :: some 11 :: some 12 :: some 13 :: some 14 :: some 15 :: some 16 :: some 17 :: some 18 :: some 19 :: some 20 :: some 21 :: some 22 :: some 23 :: none :: none :: none :: none :: none :: none :: none :: none :: none :: none :: none :: none :: none :: none :: none :: none :: none :: none :: none :: none :: none :: none :: none :: none :: none :: none :: none :: none :: none :: none :: none :: none :: none :: none :: none :: none :: none :: none :: none :: none :: none :: none :: none :: none :: none :: none :: none :: none :: none :: none :: none :: none :: none :: none :: none :: none :: none :: none :: none :: none :: none :: none :: none :: none :: none :: none :: none :: none :: none :: none :: none :: none :: none :: none :: none :: none :: none :: none :: none :: none :: []) (by kernel_rfl) (by kernel_rfl) (QZ.drew (QZ.new hQ1 (D7.vl z) 25)) ?_ ?_
    · intro i hi A W hB hA
      have hi2 : i < 24 := hi
      have hcase : i = 0 ∨ i = 1 ∨ i = 2 ∨ i = 3 ∨ i = 4 ∨ i = 5 ∨ i = 6 ∨ i = 7 ∨ i = 8 ∨ i = 9 ∨ i = 10 ∨ i = 11 ∨ i = 12 ∨ i = 13 ∨ i = 14 ∨ i = 15 ∨ i = 16 ∨ i = 17 ∨ i = 18 ∨ i = 19 ∨ i = 20 ∨ i = 21 ∨ i = 22 ∨ i = 23 := by omega
      clear hi hi2
      rcases hcase with rfl | rfl | rfl | rfl | rfl | rfl | rfl | rfl | rfl | rfl | rfl | rfl | rfl | rfl | rfl | rfl | rfl | rfl | rfl | rfl | rfl | rfl | rfl | rfl
      · have s6 : A.tmps[6]?.getD undef = .pointer (some ⟨wq.heap.size, 0, none⟩) := (hA.st 6 (by kernel_rfl)).trans rfl
        obtain ⟨c0, c1, c2, c3, c4, c5, c6, _⟩ := seven_cells hB.z
        exact wpOp_of rfl rfl (wp_value (v := valV z) (W' := W) (by simp [execOp, Act.eval, s6, go_sem, c0, c1, c2, c3, c4, c5, c6, valV]) ⟨rfl, hB⟩)
      · have s3 : A.tmps[3]?.getD undef = .pointer (some ⟨w1.heap.size, 0, none⟩) := (hA.st 3 (by kernel_rfl)).trans rfl
        obtain ⟨c0, c1, c2, c3, c4, c5, c6, _⟩ := seven_cells hB.q.x
        exact wpOp_of rfl rfl (wp_value (v := valV x) (W' := W) (by simp [execOp, Act.eval, s3, go_sem, c0, c1, c2, c3, c4, c5, c6, valV]) ⟨rfl, hB⟩)
      · have s4 : A.tmps[4]?.getD undef = .pointer (some ⟨w1.heap.size + 1, 0, none⟩) := (hA.st 4 (by kernel_rfl)).trans rfl
        obtain ⟨c0, c1, c2, c3, c4, c5, c6, _⟩ := seven_cells hB.q.y
        exact wpOp_of rfl rfl (wp_value (v := valV y) (W' := W) (by simp [execOp, Act.eval, s4, go_sem, c0, c1, c2, c3, c4, c5, c6, valV]) ⟨rfl, hB⟩)
      · have s5 : A.tmps[5]?.getD undef = .int .i64 p := (hA.st 5 (by kernel_rfl)).trans rfl
        exact wpOp_of rfl rfl (wp_value (v := .int .i64 p) (W' := W) (by simp [execOp, Act.eval, s5, go_sem]) ⟨rfl, hB⟩)
      · have s20 : A.tmps[20]?.getD undef = valV x := hA.on 1 20 (by kernel_rfl) (by kernel_rfl)
        have s21 : A.tmps[21]?.getD undef = valV y := hA.on 2 21 (by kernel_rfl) (by kernel_rfl)
        have s22 : A.tmps[22]?.getD undef = .int .i64 p := hA.on 3 22 (by kernel_rfl) (by kernel_rfl)
        refine wpOp_of rfl rfl (wp_enter (f := 9) (args := #[valV x, valV y, .int .i64 p]) (by simp [execOp, Act.eval, s20, s21, s22, go_sem]) ?_)
        refine (HSM.out W).mono ?_
        rintro e w' ⟨rfl, hb'⟩
        exact ⟨_, rfl, rfl, QZ.call hB hb'⟩
      · have s19 : A.tmps[19]?.getD undef = valV z := hA.on 0 19 (by kernel_rfl) (by kernel_rfl)
        have s23 : A.tmps[23]?.getD undef = valV z := hA.on 4 23 (by kernel_rfl) (by kernel_rfl)
        exact wpOp_of rfl rfl (wp_value (v := .bool false) (W' := W) (by simp [execOp, Act.eval, s19, s23, go_sem, guardV, neqV, same_self]) ⟨rfl, hB⟩)
      · have s24 : A.tmps[24]?.getD undef = .bool false := hA.on 5 24 (by kernel_rfl) (by kernel_rfl)
        exact wpOp_of rfl rfl (wp_value (v := .bool false) (W' := W) (by simp [execOp, Act.eval, s24, go_sem]) ⟨rfl, hB⟩)
      · have hg : A.tmps[25]?.getD undef = .bool false := hA.on 6 25 (by kernel_rfl) (by kernel_rfl)
        have s3 : A.tmps[3]?.getD undef = .pointer (some ⟨w1.heap.size, 0, none⟩) := (hA.st 3 (by kernel_rfl)).trans rfl
        obtain ⟨c0, c1, c2, c3, c4, c5, c6, _⟩ := seven_cells hB.q.x
        exact wpOp_want rfl rfl (by kernel_rfl) hg (wp_value (v := valV x) (W' := W) (by simp [execOp, Act.eval, s3, go_sem, c0, c1, c2, c3, c4, c5, c6, valV]) ⟨rfl, hB⟩)
      · have hg : A.tmps[25]?.getD undef = .bool false := hA.on 6 25 (by kernel_rfl) (by kernel_rfl)
        have s4 : A.tmps[4]?.getD undef = .pointer (some ⟨w1.heap.size + 1, 0, none⟩) := (hA.st 4 (by kernel_rfl)).trans rfl
        obtain ⟨c0, c1, c2, c3, c4, c5, c6, _⟩ := seven_cells hB.q.y
        exact wpOp_want rfl rfl (by kernel_rfl) hg (wp_value (v := valV y) (W' := W) (by simp [execOp, Act.eval, s4, go_sem, c0, c1, c2, c3, c4, c5, c6, valV]) ⟨rfl, hB⟩)
      · have hg : A.tmps[25]?.getD undef = .bool false := hA.on 6 25 (by kernel_rfl) (by kernel_rfl)
        have s26 : A.tmps[26]?.getD undef = valV x := hA.on 7 26 (by kernel_rfl) (by kernel_rfl)
        have s27 : A.tmps[27]?.getD undef = valV y := hA.on 8 27 (by kernel_rfl) (by kernel_rfl)
        refine wpOp_want rfl rfl (by kernel_rfl) hg (wp_enter (f := 10) (args := #[valV x, valV y]) (by simp [execOp, Act.eval, s26, s27, go_sem]) ?_)
        refine (HC.out W hB.q.b).mono ?_
        rintro e w' ⟨rfl, hb'⟩
        exact ⟨_, rfl, rfl, QZ.call hB hb'⟩
      · have hg : A.tmps[25]?.getD undef = .bool false := hA.on 6 25 (by kernel_rfl) (by kernel_rfl)
        have s3 : A.tmps[3]?.getD undef = .pointer (some ⟨w1.heap.size, 0, none⟩) := (hA.st 3 (by kernel_rfl)).trans rfl
        obtain ⟨c0, c1, c2, c3, c4, c5, c6, _⟩ := seven_cells hB.q.x
        exact wpOp_want rfl rfl (by kernel_rfl) hg (wp_value (v := valV x) (W' := W) (by simp [execOp, Act.eval, s3, go_sem, c0, c1, c2, c3, c4, c5, c6, valV]) ⟨rfl, hB⟩)
      · have hg : A.tmps[25]?.getD undef = .bool false := hA.on 6 25 (by kernel_rfl) (by kernel_rfl)
        have s4 : A.tmps[4]?.getD undef = .pointer (some ⟨w1.heap.size + 1, 0, none⟩) := (hA.st 4 (by kernel_rfl)).trans rfl
        obtain ⟨c0, c1, c2, c3, c4, c5, c6, _⟩ := seven_cells hB.q.y
        exact wpOp_want rfl rfl (by kernel_rfl) hg (wp_value (v := valV y) (W' := W) (by simp [execOp, Act.eval, s4, go_sem, c0, c1, c2, c3, c4, c5, c6, valV]) ⟨rfl, hB⟩)
      · have hg : A.tmps[25]?.getD undef = .bool false := hA.on 6 25 (by kernel_rfl) (by kernel_rfl)
        have s29 : A.tmps[29]?.getD undef = valV x := hA.on 10 29 (by kernel_rfl) (by kernel_rfl)
        have s30 : A.tmps[30]?.getD undef = valV y := hA.on 11 30 (by kernel_rfl) (by kernel_rfl)
        refine wpOp_want rfl rfl (by kernel_rfl) hg (wp_enter (f := 11) (args := #[valV x, valV y]) (by simp [execOp, Act.eval, s29, s30, go_sem]) ?_)
        refine (HSC.out W).mono ?_
        rintro e w' ⟨rfl, hb'⟩
        exact ⟨_, rfl, rfl, QZ.call hB hb'⟩
      · have hg : A.tmps[25]?.getD undef = .bool false := hA.on 6 25 (by kernel_rfl) (by kernel_rfl)
        have s28 : A.tmps[28]?.getD undef = .bool C := hA.on 9 28 (by kernel_rfl) (by kernel_rfl)
        have s31 : A.tmps[31]?.getD undef = .bool C := hA.on 12 31 (by kernel_rfl) (by kernel_rfl)
        exact wpOp_want rfl rfl (by kernel_rfl) hg (wp_value (v := .bool false) (W' := W) (by simp [execOp, Act.eval, s28, s31, go_sem]) ⟨rfl, hB⟩)
      · have s25 : A.tmps[25]?.getD undef = .bool false := hA.on 6 25 (by kernel_rfl) (by kernel_rfl)
        have s32 : A.tmps[32]?.getD undef = .bool false := hA.on 13 32 (by kernel_rfl) (by kernel_rfl)
        exact wpOp_of rfl rfl (wp_value (v := .bool false) (W' := W) (by simp [execOp, Act.eval, s25, s32, go_sem]) ⟨rfl, hB⟩)
      · have s33 : A.tmps[33]?.getD undef = .bool false := hA.on 14 33 (by kernel_rfl) (by kernel_rfl)
        exact wpOp_of rfl rfl (wp_value (v := .bool false) (W' := W) (by simp [execOp, Act.eval, s33, go_sem]) ⟨rfl, hB⟩)
      · have hg : A.tmps[34]?.getD undef = .bool false := hA.on 15 34 (by kernel_rfl) (by kernel_rfl)
        have s3 : A.tmps[3]?.getD undef = .pointer (some ⟨w1.heap.size, 0, none⟩) := (hA.st 3 (by kernel_rfl)).trans rfl
        obtain ⟨c0, c1, c2, c3, c4, c5, c6, _⟩ := seven_cells hB.q.x
        exact wpOp_want rfl rfl (by kernel_rfl) hg (wp_value (v := valV x) (W' := W) (by simp [execOp, Act.eval, s3, go_sem, c0, c1, c2, c3, c4, c5, c6, valV]) ⟨rfl, hB⟩)
      · have hg : A.tmps[34]?.getD undef = .bool false := hA.on 15 34 (by kernel_rfl) (by kernel_rfl)
        have s4 : A.tmps[4]?.getD undef = .pointer (some ⟨w1.heap.size + 1, 0, none⟩) := (hA.st 4 (by kernel_rfl)).trans rfl
        obtain ⟨c0, c1, c2, c3, c4, c5, c6, _⟩ := seven_cells hB.q.y
        exact wpOp_want rfl rfl (by kernel_rfl) hg (wp_value (v := valV y) (W' := W) (by simp [execOp, Act.eval, s4, go_sem, c0, c1, c2, c3, c4, c5, c6, valV]) ⟨rfl, hB⟩)
      · have hg : A.tmps[34]?.getD undef = .bool false := hA.on 15 34 (by kernel_rfl) (by kernel_rfl)
        have s35 : A.tmps[35]?.getD undef = valV x := hA.on 16 35 (by kernel_rfl) (by kernel_rfl)
        have s36 : A.tmps[36]?.getD undef = valV y := hA.on 17 36 (by kernel_rfl) (by kernel_rfl)
        refine wpOp_want rfl rfl (by kernel_rfl) hg (wp_enter (f := 10) (args := #[valV x, valV y]) (by simp [execOp, Act.eval, s35, s36, go_sem]) ?_)
        refine (HC.out W hB.q.b).mono ?_
        rintro e w' ⟨rfl, hb'⟩
        exact ⟨_, rfl, rfl, QZ.call hB hb'⟩
      · have hg : A.tmps[34]?.getD undef = .bool false := hA.on 15 34 (by kernel_rfl) (by kernel_rfl)
        have s4 : A.tmps[4]?.getD undef = .pointer (some ⟨w1.heap.size + 1, 0, none⟩) := (hA.st 4 (by kernel_rfl)).trans rfl
        obtain ⟨c0, c1, c2, c3, c4, c5, c6, _⟩ := seven_cells hB.q.y
        exact wpOp_want rfl rfl (by kernel_rfl) hg (wp_value (v := valV y) (W' := W) (by simp [execOp, Act.eval, s4, go_sem, c0, c1, c2, c3, c4, c5, c6, valV]) ⟨rfl, hB⟩)
      · have hg : A.tmps[34]?.getD undef = .bool false := hA.on 15 34 (by kernel_rfl) (by kernel_rfl)
        have s3 : A.tmps[3]?.getD undef = .pointer (some ⟨w1.heap.size, 0, none⟩) := (hA.st 3 (by kernel_rfl)).trans rfl
        obtain ⟨c0, c1, c2, c3, c4, c5, c6, _⟩ := seven_cells hB.q.x
        exact wpOp_want rfl rfl (by kernel_rfl) hg (wp_value (v := valV x) (W' := W) (by simp [execOp, Act.eval, s3, go_sem, c0, c1, c2, c3, c4, c5, c6, valV]) ⟨rfl, hB⟩)
      · have hg : A.tmps[34]?.getD undef = .bool false := hA.on 15 34 (by kernel_rfl) (by kernel_rfl)
        have s38 : A.tmps[38]?.getD undef = valV y := hA.on 19 38 (by kernel_rfl) (by kernel_rfl)
        have s39 : A.tmps[39]?.getD undef = valV x := hA.on 20 39 (by kernel_rfl) (by kernel_rfl)
        refine wpOp_want rfl rfl (by kernel_rfl) hg (wp_enter (f := 10) (args := #[valV y, valV x]) (by simp [execOp, Act.eval, s38, s39, go_sem]) ?_)
        refine (HC2.out W hB.q.b).mono ?_
        rintro e w' ⟨rfl, hb'⟩
        exact ⟨_, rfl, rfl, QZ.call hB hb'⟩
      · have hg : A.tmps[34]?.getD undef = .bool false := hA.on 15 34 (by kernel_rfl) (by kernel_rfl)
        have s37 : A.tmps[37]?.getD undef = .bool C := hA.on 18 37 (by kernel_rfl) (by kernel_rfl)
        have s40 : A.tmps[40]?.getD undef = .bool C := hA.on 21 40 (by kernel_rfl) (by kernel_rfl)
        exact wpOp_want rfl rfl (by kernel_rfl) hg (wp_value (v := .bool false) (W' := W) (by simp [execOp, Act.eval, s37, s40, go_sem]) ⟨rfl, hB⟩)
      · have s34 : A.tmps[34]?.getD undef = .bool false := hA.on 15 34 (by kernel_rfl) (by kernel_rfl)
        have s41 : A.tmps[41]?.getD undef = .bool false := hA.on 22 41 (by kernel_rfl) (by kernel_rfl)
        exact wpOp_of rfl rfl (wp_value (v := .bool false) (W' := W) (by simp [execOp, Act.eval, s34, s41, go_sem]) ⟨rfl, hB⟩)
    intro wR hR
    simp only [RI.mergeL, List.getElem?_cons_zero, List.getElem?_cons_succ, Option.getD_some]
    obtain ⟨q0, q1, q2, q3, q4, q5, q6, _⟩ := seven_cells hR.q.x; obtain ⟨u0, u1, u2, u3, u4, u5, u6, _⟩ := seven_cells hR.q.y; obtain ⟨v0, v1, v2, v3, v4, v5, v6, _⟩ := seven_cells hR.z
    clear HSM HSC HC2
    by_cases hok : OA = true ∧ OB = true ∧ -131072 ≤ p ∧ p ≤ 196608
    · obtain ⟨rfl, rfl, hr0, hr1⟩ := hok
      have hm0 := P7.mixed_zero eOA eOB
      have hm1 := P7.mixed_one eOA eOB
      have hms := P7.mixed_self eOA (p := p) ⟨hr0, hr1⟩
      have HM0 := Lib.hid (fun w' hq => hm0 ▸ HM.out 0 w' hq)
      have HMO := Lib.hid (fun w' hq => hm1 ▸ HM.out 65536 w' hq)
      have HMX := Lib.hid (fun w' hq => hms ▸ HMS.out w' hq)
      have hzok : valueOk z = true := ez ▸ P7.mixed_ok eOA eOB hr0 hr1
      have HVz := Lib.hid (fun w' (hq : Below w.heap.size w w') => hzok ▸ ValueOk_impl z w' (HP.out.on hq) (by omega))
      clear hm0 hm1 hms
      go_upto_region 9 with (first | (go_at_call 12; have hz := hZ1; refine (HVy.out _).mono ?_; rintro e w' ⟨rfl, hb'⟩; have hZ2 := QZ.call hZ1 hb') | (go_at_call 12; refine (HVx.out _).mono ?_; rintro e w' ⟨rfl, hb'⟩; have hZ1 := QZ.call hR hb'; obtain ⟨q0, q1, q2, q3, q4, q5, q6, _⟩ := seven_cells hZ1.q.x; obtain ⟨u0, u1, u2, u3, u4, u5, u6, _⟩ := seven_cells hZ1.q.y; obtain ⟨v0, v1, v2, v3, v4, v5, v6, _⟩ := seven_cells hZ1.z))
      refine RI.region_det (by kernel_rfl) [valV x, valV y, valV x, valV x, .bool false, .bool false, valV x, valV y, valV y, valV y, .bool false, .bool false, .bool false, valV x, valV x, .int .i64 p, valV x, valV x, .bool false, .bool false, .bool false, valV z, .bool true, .bool false, .bool false] (fun W => QZ w W w1.heap.size (w1.heap.size + 1) wq.heap.size (D7.vl x) (D7.vl y) (D7.vl z)) (none :: none :: none :: none :: none :: none :: none :: none :: none :: none :: none :: none :: none :: none :: none :: none :: none :: none :: none :: none :: none :: none :: none :: none :: none :: none :: none :: none :: none :: none :: none :: none :: none :: none :: none :: none :: none :: none :: none :: none :: none :: none :: none :: none :: none :: none :: none :: none :: none :: none :: none :: none :: none :: none :: none :: none :: none :: none :: none :: none :: none :: none :: some 0 :: some 1 :: some 2 :: some 3 :: some 4 :: some 5 :: some 6 :: some 7 :: some 8 :: some 9 :: some 10 :: some 11 :: some 12 :: some 13 :: some 14 :: some 15 :: some 16 :: some 17 :: some 18 :: some 19 :: some 20 :: some 21 :: some 22 :: some 23 :: some 24 :: none :: none :: none :: none :: none :: none :: none :: none :: none :: none :: none :: none :: none :: none :: none :: none :: none :: none :: none :: none :: none :: none :: none :: none :: none :: none :: none :: none :: none :: none :: none :: none :: none :: none :: none :: none :: []) (by kernel_rfl) (by kernel_rfl) (QZ.drew hZ2) ?_ ?_
      · intro i hi A W hB hA
        have hi2 : i < 25 := hi
        have hcase : i = 0 ∨ i = 1 ∨ i = 2 ∨ i = 3 ∨ i = 4 ∨ i = 5 ∨ i = 6 ∨ i = 7 ∨ i = 8 ∨ i = 9 ∨ i = 10 ∨ i = 11 ∨ i = 12 ∨ i = 13 ∨ i = 14 ∨ i = 15 ∨ i = 16 ∨ i = 17 ∨ i = 18 ∨ i = 19 ∨ i = 20 ∨ i = 21 ∨ i = 22 ∨ i = 23 ∨ i = 24 := by omega
        clear hi hi2
        rcases hcase with rfl | rfl | rfl | rfl | rfl | rfl | rfl | rfl | rfl | rfl | rfl | rfl | rfl | rfl | rfl | rfl | rfl | rfl | rfl | rfl | rfl | rfl | rfl | rfl | rfl
        · have s3 : A.tmps[3]?.getD undef = .pointer (some ⟨w1.heap.size, 0, none⟩) := (hA.st 3 (by kernel_rfl)).trans rfl
          obtain ⟨c0, c1, c2, c3, c4, c5, c6, _⟩ := seven_cells hB.q.x
          exact wpOp_of rfl rfl (wp_value (v := valV x) (W' := W) (by simp [execOp, Act.eval, s3, go_sem, c0, c1, c2, c3, c4, c5, c6, valV]) ⟨rfl, hB⟩)
        · have s4 : A.tmps[4]?.getD undef = .pointer (some ⟨w1.heap.size + 1, 0, none⟩) := (hA.st 4 (by kernel_rfl)).trans rfl
          obtain ⟨c0, c1, c2, c3, c4, c5, c6, _⟩ := seven_cells hB.q.y
          exact wpOp_of rfl rfl (wp_value (v := valV y) (W' := W) (by simp [execOp, Act.eval, s4, go_sem, c0, c1, c2, c3, c4, c5, c6, valV]) ⟨rfl, hB⟩)
        · have s62 : A.tmps[62]?.getD undef = valV x := hA.on 0 62 (by kernel_rfl) (by kernel_rfl)
          have s63 : A.tmps[63]?.getD undef = valV y := hA.on 1 63 (by kernel_rfl) (by kernel_rfl)
          refine wpOp_of rfl rfl (wp_enter (f := 8) (args := #[valV x, valV y, .int .i64 0]) (by simp [execOp, Act.eval, s62, s63, go_sem]) ?_)
          refine (HM0.out W hB.q.b).mono ?_
          rintro e w' ⟨rfl, hb'⟩
          exact ⟨_, rfl, rfl, QZ.call hB hb'⟩
        · have s3 : A.tmps[3]?.getD undef = .pointer (some ⟨w1.heap.size, 0, none⟩) := (hA.st 3 (by kernel_rfl)).trans rfl
          obtain ⟨c0, c1, c2, c3, c4, c5, c6, _⟩ := seven_cells hB.q.x
          exact wpOp_of rfl rfl (wp_value (v := valV x) (W' := W) (by simp [execOp, Act.eval, s3, go_sem, c0, c1, c2, c3, c4, c5, c6, valV]) ⟨rfl, hB⟩)
        · have s64 : A.tmps[64]?.getD undef = valV x := hA.on 2 64 (by kernel_rfl) (by kernel_rfl)
          have s65 : A.tmps[65]?.getD undef = valV x := hA.on 3 65 (by kernel_rfl) (by kernel_rfl)
          exact wpOp_of rfl rfl (wp_value (v := .bool false) (W' := W) (by simp [execOp, Act.eval, s64, s65, go_sem, guardV, neqV, same_self]) ⟨rfl, hB⟩)
        · have s66 : A.tmps[66]?.getD undef = .bool false := hA.on 4 66 (by kernel_rfl) (by kernel_rfl)
          exact wpOp_of rfl rfl (wp_value (v := .bool false) (W' := W) (by simp [execOp, Act.eval, s66, go_sem]) ⟨rfl, hB⟩)
        · have hg : A.tmps[67]?.getD undef = .bool false := hA.on 5 67 (by kernel_rfl) (by kernel_rfl)
          have s3 : A.tmps[3]?.getD undef = .pointer (some ⟨w1.heap.size, 0, none⟩) := (hA.st 3 (by kernel_rfl)).trans rfl
          obtain ⟨c0, c1, c2, c3, c4, c5, c6, _⟩ := seven_cells hB.q.x
          exact wpOp_want rfl rfl (by kernel_rfl) hg (wp_value (v := valV x) (W' := W) (by simp [execOp, Act.eval, s3, go_sem, c0, c1, c2, c3, c4, c5, c6, valV]) ⟨rfl, hB⟩)
        · have hg : A.tmps[67]?.getD undef = .bool false := hA.on 5 67 (by kernel_rfl) (by kernel_rfl)
          have s4 : A.tmps[4]?.getD undef = .pointer (some ⟨w1.heap.size + 1, 0, none⟩) := (hA.st 4 (by kernel_rfl)).trans rfl
          obtain ⟨c0, c1, c2, c3, c4, c5, c6, _⟩ := seven_cells hB.q.y
          exact wpOp_want rfl rfl (by kernel_rfl) hg (wp_value (v := valV y) (W' := W) (by simp [execOp, Act.eval, s4, go_sem, c0, c1, c2, c3, c4, c5, c6, valV]) ⟨rfl, hB⟩)
        · have hg : A.tmps[67]?.getD undef = .bool false := hA.on 5 67 (by kernel_rfl) (by kernel_rfl)
          have s68 : A.tmps[68]?.getD undef = valV x := hA.on 6 68 (by kernel_rfl) (by kernel_rfl)
          have s69 : A.tmps[69]?.getD undef = valV y := hA.on 7 69 (by kernel_rfl) (by kernel_rfl)
          refine wpOp_want rfl rfl (by kernel_rfl) hg (wp_enter (f := 8) (args := #[valV x, valV y, .int .i64 65536]) (by simp [execOp, Act.eval, s68, s69, go_sem]) ?_)
          refine (HMO.out W hB.q.b).mono ?_
          rintro e w' ⟨rfl, hb'⟩
          exact ⟨_, rfl, rfl, QZ.call hB hb'⟩
        · have hg : A.tmps[67]?.getD undef = .bool false := hA.on 5 67 (by kernel_rfl) (by kernel_rfl)
          have s4 : A.tmps[4]?.getD undef = .pointer (some ⟨w1.heap.size + 1, 0, none⟩) := (hA.st 4 (by kernel_rfl)).trans rfl
          obtain ⟨c0, c1, c2, c3, c4, c5, c6, _⟩ := seven_cells hB.q.y
          exact wpOp_want rfl rfl (by kernel_rfl) hg (wp_value (v := valV y) (W' := W) (by simp [execOp, Act.eval, s4, go_sem, c0, c1, c2, c3, c4, c5, c6, valV]) ⟨rfl, hB⟩)
        · have hg : A.tmps[67]?.getD undef = .bool false := hA.on 5 67 (by kernel_rfl) (by kernel_rfl)
          have s70 : A.tmps[70]?.getD undef = valV y := hA.on 8 70 (by kernel_rfl) (by kernel_rfl)
          have s71 : A.tmps[71]?.getD undef = valV y := hA.on 9 71 (by kernel_rfl) (by kernel_rfl)
          exact wpOp_want rfl rfl (by kernel_rfl) hg (wp_value (v := .bool false) (W' := W) (by simp [execOp, Act.eval, s70, s71, go_sem, guardV, neqV, same_self]) ⟨rfl, hB⟩)
        · have s67 : A.tmps[67]?.getD undef = .bool false := hA.on 5 67 (by kernel_rfl) (by kernel_rfl)
          have s72 : A.tmps[72]?.getD undef = .bool false := hA.on 10 72 (by kernel_rfl) (by kernel_rfl)
          exact wpOp_of rfl rfl (wp_value (v := .bool false) (W' := W) (by simp [execOp, Act.eval, s67, s72, go_sem]) ⟨rfl, hB⟩)
        · have s73 : A.tmps[73]?.getD undef = .bool false := hA.on 11 73 (by kernel_rfl) (by kernel_rfl)
          exact wpOp_of rfl rfl (wp_value (v := .bool false) (W' := W) (by simp [execOp, Act.eval, s73, go_sem]) ⟨rfl, hB⟩)
        · have hg : A.tmps[74]?.getD undef = .bool false := hA.on 12 74 (by kernel_rfl) (by kernel_rfl)
          have s3 : A.tmps[3]?.getD undef = .pointer (some ⟨w1.heap.size, 0, none⟩) := (hA.st 3 (by kernel_rfl)).trans rfl
          obtain ⟨c0, c1, c2, c3, c4, c5, c6, _⟩ := seven_cells hB.q.x
          exact wpOp_want rfl rfl (by kernel_rfl) hg (wp_value (v := valV x) (W' := W) (by simp [execOp, Act.eval, s3, go_sem, c0, c1, c2, c3, c4, c5, c6, valV]) ⟨rfl, hB⟩)
        · have hg : A.tmps[74]?.getD undef = .bool false := hA.on 12 74 (by kernel_rfl) (by kernel_rfl)
          have s3 : A.tmps[3]?.getD undef = .pointer (some ⟨w1.heap.size, 0, none⟩) := (hA.st 3 (by kernel_rfl)).trans rfl
          obtain ⟨c0, c1, c2, c3, c4, c5, c6, _⟩ := seven_cells hB.q.x
          exact wpOp_want rfl rfl (by kernel_rfl) hg (wp_value (v := valV x) (W' := W) (by simp [execOp, Act.eval, s3, go_sem, c0, c1, c2, c3, c4, c5, c6, valV]) ⟨rfl, hB⟩)
        · have hg : A.tmps[74]?.getD undef = .bool false := hA.on 12 74 (by kernel_rfl) (by kernel_rfl)
          have s5 : A.tmps[5]?.getD undef = .int .i64 p := (hA.st 5 (by kernel_rfl)).trans rfl
          exact wpOp_want rfl rfl (by kernel_rfl) hg (wp_value (v := .int .i64 p) (W' := W) (by simp [execOp, Act.eval, s5, go_sem]) ⟨rfl, hB⟩)
        · have hg : A.tmps[74]?.getD undef = .bool false := hA.on 12 74 (by kernel_rfl) (by kernel_rfl)
          have s75 : A.tmps[75]?.getD undef = valV x := hA.on 13 75 (by kernel_rfl) (by kernel_rfl)
          have s76 : A.tmps[76]?.getD undef = valV x := hA.on 14 76 (by kernel_rfl) (by kernel_rfl)
          have s77 : A.tmps[77]?.getD undef = .int .i64 p := hA.on 15 77 (by kernel_rfl) (by kernel_rfl)
          refine wpOp_want rfl rfl (by kernel_rfl) hg (wp_enter (f := 8) (args := #[valV x, valV x, .int .i64 p]) (by simp [execOp, Act.eval, s75, s76, s77, go_sem]) ?_)
          refine (HMX.out W hB.q.b).mono ?_
          rintro e w' ⟨rfl, hb'⟩
          exact ⟨_, rfl, rfl, QZ.call hB hb'⟩
        · have hg : A.tmps[74]?.getD undef = .bool false := hA.on 12 74 (by kernel_rfl) (by kernel_rfl)
          have s3 : A.tmps[3]?.getD undef = .pointer (some ⟨w1.heap.size, 0, none⟩) := (hA.st 3 (by kernel_rfl)).trans rfl
          obtain ⟨c0, c1, c2, c3, c4, c5, c6, _⟩ := seven_cells hB.q.x
          exact wpOp_want rfl rfl (by kernel_rfl) hg (wp_value (v := valV x) (W' := W) (by simp [execOp, Act.eval, s3, go_sem, c0, c1, c2, c3, c4, c5, c6, valV]) ⟨rfl, hB⟩)
        · have hg : A.tmps[74]?.getD undef = .bool false := hA.on 12 74 (by kernel_rfl) (by kernel_rfl)
          have s78 : A.tmps[78]?.getD undef = valV x := hA.on 16 78 (by kernel_rfl) (by kernel_rfl)
          have s79 : A.tmps[79]?.getD undef = valV x := hA.on 17 79 (by kernel_rfl) (by kernel_rfl)
          exact wpOp_want rfl rfl (by kernel_rfl) hg (wp_value (v := .bool false) (W' := W) (by simp [execOp, Act.eval, s78, s79, go_sem, guardV, neqV, same_self]) ⟨rfl, hB⟩)
        · have s74 : A.tmps[74]?.getD undef = .bool false := hA.on 12 74 (by kernel_rfl) (by kernel_rfl)
          have s80 : A.tmps[80]?.getD undef = .bool false := hA.on 18 80 (by kernel_rfl) (by kernel_rfl)
          exact wpOp_of rfl rfl (wp_value (v := .bool false) (W' := W) (by simp [execOp, Act.eval, s74, s80, go_sem]) ⟨rfl, hB⟩)
        · have s81 : A.tmps[81]?.getD undef = .bool false := hA.on 19 81 (by kernel_rfl) (by kernel_rfl)
          exact wpOp_of rfl rfl (wp_value (v := .bool false) (W' := W) (by simp [execOp, Act.eval, s81, go_sem]) ⟨rfl, hB⟩)
        · have hg : A.tmps[82]?.getD undef = .bool false := hA.on 20 82 (by kernel_rfl) (by kernel_rfl)
          have s6 : A.tmps[6]?.getD undef = .pointer (some ⟨wq.heap.size, 0, none⟩) := (hA.st 6 (by kernel_rfl)).trans rfl
          obtain ⟨c0, c1, c2, c3, c4, c5, c6, _⟩ := seven_cells hB.z
          exact wpOp_want rfl rfl (by kernel_rfl) hg (wp_value (v := valV z) (W' := W) (by simp [execOp, Act.eval, s6, go_sem, c0, c1, c2, c3, c4, c5, c6, valV]) ⟨rfl, hB⟩)
        · have hg : A.tmps[82]?.getD undef = .bool false := hA.on 20 82 (by kernel_rfl) (by kernel_rfl)
          have s83 : A.tmps[83]?.getD undef = valV z := hA.on 21 83 (by kernel_rfl) (by kernel_rfl)
          refine wpOp_want rfl rfl (by kernel_rfl) hg (wp_enter (f := 13) (args := #[valV z]) (by simp [execOp, Act.eval, s83, go_sem]) ?_)
          refine (HVz.out W hB.q.b).mono ?_
          rintro e w' ⟨rfl, hb'⟩
          exact ⟨_, rfl, rfl, QZ.call hB hb'⟩
        · have hg : A.tmps[82]?.getD undef = .bool false := hA.on 20 82 (by kernel_rfl) (by kernel_rfl)
          have s84 : A.tmps[84]?.getD undef = .bool true := hA.on 22 84 (by kernel_rfl) (by kernel_rfl)
          exact wpOp_want rfl rfl (by kernel_rfl) hg (wp_value (v := .bool false) (W' := W) (by simp [execOp, Act.eval, s84, go_sem]) ⟨rfl, hB⟩)
        · have s82 : A.tmps[82]?.getD undef = .bool false := hA.on 20 82 (by kernel_rfl) (by kernel_rfl)
          have s85 : A.tmps[85]?.getD undef = .bool false := hA.on 23 85 (by kernel_rfl) (by kernel_rfl)
          exact wpOp_of rfl rfl (wp_value (v := .bool false) (W' := W) (by simp [execOp, Act.eval, s82, s85, go_sem]) ⟨rfl, hB⟩)
      intro wS hS
      simp only [RI.mergeL, List.getElem?_cons_zero, List.getElem?_cons_succ, Option.getD_some]
      obtain ⟨q0, q1, q2, q3, q4, q5, q6, _⟩ := seven_cells hS.q.x; obtain ⟨u0, u1, u2, u3, u4, u5, u6, _⟩ := seven_cells hS.q.y
      unfold valV at HC
      cases C
      · have hor : Va.same z x = true ∨ Va.same z y = true := by
          have hz := P7.mixed_in eOA eOB hr0 hr1
          rw [ez, if_neg (by rw [eC]; simp)] at hz
          split at hz
          · exact Or.inl (hz ▸ same_self x)
          · exact Or.inr (hz ▸ same_self y)
        obtain ⟨E1, eE1⟩ : ∃ E, Va.same z x = E := ⟨_, rfl⟩
        obtain ⟨E2, eE2⟩ : ∃ E, Va.same z y = E := ⟨_, rfl⟩
        have heq1 : ∀ w', (Op.equalIn 10000 25 (.agg #[.int .i64 z.k, .int .i64 z.n, .int .i64 z.r, .int .i64 z.g, .int .i64 z.b, .int .i64 z.c, .string ⟨z.w.toArray⟩]) (.agg #[.int .i64 x.k, .int .i64 x.n, .int .i64 x.r, .int .i64 x.g, .int .i64 x.b, .int .i64 x.c, .string ⟨x.w.toArray⟩])).run Tryz.prog w' = .ok E1 w' := fun w' => by rw [← eE1]; exact eqV z x w'
        have heq2 : ∀ w', (Op.equalIn 10000 25 (.agg #[.int .i64 z.k, .int .i64 z.n, .int .i64 z.r, .int .i64 z.g, .int .i64 z.b, .int .i64 z.c, .string ⟨z.w.toArray⟩]) (.agg #[.int .i64 y.k, .int .i64 y.n, .int .i64 y.r, .int .i64 y.g, .int .i64 y.b, .int .i64 y.c, .string ⟨y.w.toArray⟩])).run Tryz.prog w' = .ok E2 w' := fun w' => by rw [← eE2]; exact eqV z y w'
        rw [eE1, eE2] at hor
        clear eE1 eE2
        cases E1
        · obtain rfl : E2 = true := by simpa using hor
          clear hor
          go_wp2_with (first | (go_at_call 10; refine (HC.out _ hS.q.b).mono ?_; rintro e w' ⟨rfl, hb'⟩; have hZ3 := QZ.call hS hb'; obtain ⟨q0, q1, q2, q3, q4, q5, q6, _⟩ := seven_cells hZ3.q.x; obtain ⟨u0, u1, u2, u3, u4, u5, u6, _⟩ := seven_cells hZ3.q.y; obtain ⟨v0, v1, v2, v3, v4, v5, v6, _⟩ := seven_cells hZ3.z))
          go_ret
          exact ⟨rfl, hZ3.q.b⟩
        · clear hor
          go_wp2_with (first | (go_at_call 10; refine (HC.out _ hS.q.b).mono ?_; rintro e w' ⟨rfl, hb'⟩; have hZ3 := QZ.call hS hb'; obtain ⟨q0, q1, q2, q3, q4, q5, q6, _⟩ := seven_cells hZ3.q.x; obtain ⟨u0, u1, u2, u3, u4, u5, u6, _⟩ := seven_cells hZ3.q.y; obtain ⟨v0, v1, v2, v3, v4, v5, v6, _⟩ := seven_cells hZ3.z))
          go_ret
          exact ⟨rfl, hZ3.q.b⟩
      · have HX := Lib.hid (P7.mixed_near eC (p := p))
        rw [ez] at HX
        have HAz := Lib.hid (fun w' (hq : Below w.heap.size w w') => Apart_impl x z (by omega) (by omega) w' (HP.out.on hq))
        have HAy := Lib.hid (fun w' (hq : Below w.heap.size w w') => Apart_impl x y (by omega) (by omega) w' (HP.out.on hq))
        have HAb := Lib.hid (fun w' (hq : Below w.heap.size w w') => Apart_impl z y (by omega) (by omega) w' (HP.out.on hq))
        obtain ⟨d1, e1⟩ : ∃ d, P7.apartV x z = d := ⟨_, rfl⟩
        obtain ⟨d2, e2⟩ : ∃ d, P7.apartV z y = d := ⟨_, rfl⟩
        obtain ⟨d, ed⟩ : ∃ d, P7.apartV x y = d := ⟨_, rfl⟩
        rw [e1] at HX HAz
        rw [e2] at HX HAb
        rw [ed] at HX HAy
        go_upto_region 13 with (first | (go_at_call 10; refine (HC.out _ hS.q.b).mono ?_; rintro e w' ⟨rfl, hb'⟩; have hZ3 := QZ.call hS hb'))
        by_cases hlt : p < 0
        · skip
          refine RI.region_det (by kernel_rfl) [.int .i64 p, .bool true, .bool true, undef, undef, .bool true, .bool true, undef, undef, undef, undef, undef, undef, undef, undef, undef, undef, undef, undef, undef, undef, undef, undef, .bool true, .bool true] (fun W => QZ w W w1.heap.size (w1.heap.size + 1) wq.heap.size (D7.vl x) (D7.vl y) (D7.vl z)) (none :: none :: some 24 :: none :: none :: none :: none :: none :: none :: none :: none :: none :: none :: none :: none :: none :: none :: none :: none :: none :: none :: none :: none :: none :: none :: none :: none :: none :: none :: none :: none :: none :: none :: none :: none :: none :: none :: none :: none :: none :: none :: none :: none :: none :: none :: none :: none :: none :: none :: none :: none :: none :: none :: none :: none :: none :: none :: none :: none :: none :: none :: none :: none :: none :: none :: none :: none :: none :: none :: none :: none :: none :: none :: none :: none :: none :: none :: none :: none :: none :: none :: none :: none :: none :: none :: none :: none :: none :: none :: none :: none :: none :: none :: none :: none :: none :: none :: none :: none :: some 0 :: some 1 :: some 2 :: some 3 :: some 4 :: some 5 :: some 6 :: some 7 :: some 8 :: some 9 :: some 10 :: some 11 :: some 12 :: some 13 :: some 14 :: some 15 :: some 16 :: some 17 :: some 18 :: some 19 :: some 20 :: some 21 :: some 22 :: some 23 :: []) (by kernel_rfl) (by kernel_rfl) (QZ.drew hZ3) ?_ ?_
          · intro i hi A W hB hA
            have hi2 : i < 25 := hi
            have hcase : i = 0 ∨ i = 1 ∨ i = 2 ∨ i = 3 ∨ i = 4 ∨ i = 5 ∨ i = 6 ∨ i = 7 ∨ i = 8 ∨ i = 9 ∨ i = 10 ∨ i = 11 ∨ i = 12 ∨ i = 13 ∨ i = 14 ∨ i = 15 ∨ i = 16 ∨ i = 17 ∨ i = 18 ∨ i = 19 ∨ i = 20 ∨ i = 21 ∨ i = 22 ∨ i = 23 ∨ i = 24 := by omega
            clear hi hi2
            rcases hcase with rfl | rfl | rfl | rfl | rfl | rfl | rfl | rfl | rfl | rfl | rfl | rfl | rfl | rfl | rfl | rfl | rfl | rfl | rfl | rfl | rfl | rfl | rfl | rfl | rfl
            · have s5 : A.tmps[5]?.getD undef = .int .i64 p := (hA.st 5 (by kernel_rfl)).trans rfl
              exact wpOp_of rfl rfl (wp_value (v := .int .i64 p) (W' := W) (by simp [execOp, Act.eval, s5, go_sem]) ⟨rfl, hB⟩)
            · have s99 : A.tmps[99]?.getD undef = .int .i64 p := hA.on 0 99 (by kernel_rfl) (by kernel_rfl)
              exact wpOp_of rfl rfl (wp_value (v := .bool true) (W' := W) (by simp [execOp, Act.eval, s99, go_sem, hlt]) ⟨rfl, hB⟩)
            · have s100 : A.tmps[100]?.getD undef = .bool true := hA.on 1 100 (by kernel_rfl) (by kernel_rfl)
              exact wpOp_of rfl rfl (wp_value (v := .bool true) (W' := W) (by simp [execOp, Act.eval, s100, go_sem]) ⟨rfl, hB⟩)
            · have hg : A.tmps[101]?.getD undef = .bool true := hA.on 2 101 (by kernel_rfl) (by kernel_rfl)
              exact wpOp_pass rfl rfl (by kernel_rfl) _ hg (by simp) ⟨rfl, hB⟩
            · have hg : A.tmps[101]?.getD undef = .bool true := hA.on 2 101 (by kernel_rfl) (by kernel_rfl)
              exact wpOp_pass rfl rfl (by kernel_rfl) _ hg (by simp) ⟨rfl, hB⟩
            · have s101 : A.tmps[101]?.getD undef = .bool true := hA.on 2 101 (by kernel_rfl) (by kernel_rfl)
              exact wpOp_of rfl rfl (wp_value (v := .bool true) (W' := W) (by simp [execOp, Act.eval, s101, go_sem]) ⟨rfl, hB⟩)
            · have s104 : A.tmps[104]?.getD undef = .bool true := hA.on 5 104 (by kernel_rfl) (by kernel_rfl)
              exact wpOp_of rfl rfl (wp_value (v := .bool true) (W' := W) (by simp [execOp, Act.eval, s104, go_sem]) ⟨rfl, hB⟩)
            · have hg : A.tmps[105]?.getD undef = .bool true := hA.on 6 105 (by kernel_rfl) (by kernel_rfl)
              exact wpOp_pass rfl rfl (by kernel_rfl) _ hg (by simp) ⟨rfl, hB⟩
            · have hg : A.tmps[105]?.getD undef = .bool true := hA.on 6 105 (by kernel_rfl) (by kernel_rfl)
              exact wpOp_pass rfl rfl (by kernel_rfl) _ hg (by simp) ⟨rfl, hB⟩
            · have hg : A.tmps[105]?.getD undef = .bool true := hA.on 6 105 (by kernel_rfl) (by kernel_rfl)
              exact wpOp_pass rfl rfl (by kernel_rfl) _ hg (by simp) ⟨rfl, hB⟩
            · have hg : A.tmps[105]?.getD undef = .bool true := hA.on 6 105 (by kernel_rfl) (by kernel_rfl)
              exact wpOp_pass rfl rfl (by kernel_rfl) _ hg (by simp) ⟨rfl, hB⟩
            · have hg : A.tmps[105]?.getD undef = .bool true := hA.on 6 105 (by kernel_rfl) (by kernel_rfl)
              exact wpOp_pass rfl rfl (by kernel_rfl) _ hg (by simp) ⟨rfl, hB⟩
            · have hg : A.tmps[105]?.getD undef = .bool true := hA.on 6 105 (by kernel_rfl) (by kernel_rfl)
              exact wpOp_pass rfl rfl (by kernel_rfl) _ hg (by simp) ⟨rfl, hB⟩
            · have hg : A.tmps[105]?.getD undef = .bool true := hA.on 6 105 (by kernel_rfl) (by kernel_rfl)
              exact wpOp_pass rfl rfl (by kernel_rfl) _ hg (by simp) ⟨rfl, hB⟩
            · have hg : A.tmps[105]?.getD undef = .bool true := hA.on 6 105 (by kernel_rfl) (by kernel_rfl)
              exact wpOp_pass rfl rfl (by kernel_rfl) _ hg (by simp) ⟨rfl, hB⟩
            · have hg : A.tmps[113]?.getD undef = undef := hA.on 14 113 (by kernel_rfl) (by kernel_rfl)
              exact wpOp_pass rfl rfl (by kernel_rfl) _ hg (by exact fun h => by cases h) ⟨rfl, hB⟩
            · have hg : A.tmps[113]?.getD undef = undef := hA.on 14 113 (by kernel_rfl) (by kernel_rfl)
              exact wpOp_pass rfl rfl (by kernel_rfl) _ hg (by exact fun h => by cases h) ⟨rfl, hB⟩
            · have hg : A.tmps[113]?.getD undef = undef := hA.on 14 113 (by kernel_rfl) (by kernel_rfl)
              exact wpOp_pass rfl rfl (by kernel_rfl) _ hg (by exact fun h => by cases h) ⟨rfl, hB⟩
            · have hg : A.tmps[113]?.getD undef = undef := hA.on 14 113 (by kernel_rfl) (by kernel_rfl)
              exact wpOp_pass rfl rfl (by kernel_rfl) _ hg (by exact fun h => by cases h) ⟨rfl, hB⟩
            · have hg : A.tmps[113]?.getD undef = undef := hA.on 14 113 (by kernel_rfl) (by kernel_rfl)
              exact wpOp_pass rfl rfl (by kernel_rfl) _ hg (by exact fun h => by cases h) ⟨rfl, hB⟩
            · have hg : A.tmps[113]?.getD undef = undef := hA.on 14 113 (by kernel_rfl) (by kernel_rfl)
              exact wpOp_pass rfl rfl (by kernel_rfl) _ hg (by exact fun h => by cases h) ⟨rfl, hB⟩
            · have hg : A.tmps[113]?.getD undef = undef := hA.on 14 113 (by kernel_rfl) (by kernel_rfl)
              exact wpOp_pass rfl rfl (by kernel_rfl) _ hg (by exact fun h => by cases h) ⟨rfl, hB⟩
            · have hg : A.tmps[105]?.getD undef = .bool true := hA.on 6 105 (by kernel_rfl) (by kernel_rfl)
              exact wpOp_pass rfl rfl (by kernel_rfl) _ hg (by simp) ⟨rfl, hB⟩
            · have s105 : A.tmps[105]?.getD undef = .bool true := hA.on 6 105 (by kernel_rfl) (by kernel_rfl)
              exact wpOp_of rfl rfl (wp_value (v := .bool true) (W' := W) (by simp [execOp, Act.eval, s105, go_sem]) ⟨rfl, hB⟩)
            · have s122 : A.tmps[122]?.getD undef = .bool true := hA.on 23 122 (by kernel_rfl) (by kernel_rfl)
              exact wpOp_of rfl rfl (wp_value (v := .bool true) (W' := W) (by simp [execOp, Act.eval, s122, go_sem]) ⟨rfl, hB⟩)
          intro wT hT
          simp only [RI.mergeL, List.getElem?_cons_zero, List.getElem?_cons_succ, Option.getD_some]
          go_wp2_with fail
          go_ret
          exact ⟨rfl, hT.q.b⟩
        · by_cases hgt : 65536 < p
          · skip
            refine RI.region_det (by kernel_rfl) [.int .i64 p, .bool false, .bool false, .int .i64 p, .bool true, .bool true, .bool true, undef, undef, undef, undef, undef, undef, undef, undef, undef, undef, undef, undef, undef, undef, undef, undef, .bool true, .bool true] (fun W => QZ w W w1.heap.size (w1.heap.size + 1) wq.heap.size (D7.vl x) (D7.vl y) (D7.vl z)) (none :: none :: some 24 :: none :: none :: none :: none :: none :: none :: none :: none :: none :: none :: none :: none :: none :: none :: none :: none :: none :: none :: none :: none :: none :: none :: none :: none :: none :: none :: none :: none :: none :: none :: none :: none :: none :: none :: none :: none :: none :: none :: none :: none :: none :: none :: none :: none :: none :: none :: none :: none :: none :: none :: none :: none :: none :: none :: none :: none :: none :: none :: none :: none :: none :: none :: none :: none :: none :: none :: none :: none :: none :: none :: none :: none :: none :: none :: none :: none :: none :: none :: none :: none :: none :: none :: none :: none :: none :: none :: none :: none :: none :: none :: none :: none :: none :: none :: none :: none :: some 0 :: some 1 :: some 2 :: some 3 :: some 4 :: some 5 :: some 6 :: some 7 :: some 8 :: some 9 :: some 10 :: some 11 :: some 12 :: some 13 :: some 14 :: some 15 :: some 16 :: some 17 :: some 18 :: some 19 :: some 20 :: some 21 :: some 22 :: some 23 :: []) (by kernel_rfl) (by kernel_rfl) (QZ.drew hZ3) ?_ ?_
            · intro i hi A W hB hA
              have hi2 : i < 25 := hi
              have hcase : i = 0 ∨ i = 1 ∨ i = 2 ∨ i = 3 ∨ i = 4 ∨ i = 5 ∨ i = 6 ∨ i = 7 ∨ i = 8 ∨ i = 9 ∨ i = 10 ∨ i = 11 ∨ i = 12 ∨ i = 13 ∨ i = 14 ∨ i = 15 ∨ i = 16 ∨ i = 17 ∨ i = 18 ∨ i = 19 ∨ i = 20 ∨ i = 21 ∨ i = 22 ∨ i = 23 ∨ i = 24 := by omega
              clear hi hi2
              rcases hcase with rfl | rfl | rfl | rfl | rfl | rfl | rfl | rfl | rfl | rfl | rfl | rfl | rfl | rfl | rfl | rfl | rfl | rfl | rfl | rfl | rfl | rfl | rfl | rfl | rfl
              · have s5 : A.tmps[5]?.getD undef = .int .i64 p := (hA.st 5 (by kernel_rfl)).trans rfl
                exact wpOp_of rfl rfl (wp_value (v := .int .i64 p) (W' := W) (by simp [execOp, Act.eval, s5, go_sem]) ⟨rfl, hB⟩)
              · have s99 : A.tmps[99]?.getD undef = .int .i64 p := hA.on 0 99 (by kernel_rfl) (by kernel_rfl)
                exact wpOp_of rfl rfl (wp_value (v := .bool false) (W' := W) (by simp [execOp, Act.eval, s99, go_sem, hlt]) ⟨rfl, hB⟩)
              · have s100 : A.tmps[100]?.getD undef = .bool false := hA.on 1 100 (by kernel_rfl) (by kernel_rfl)
                exact wpOp_of rfl rfl (wp_value (v := .bool false) (W' := W) (by simp [execOp, Act.eval, s100, go_sem]) ⟨rfl, hB⟩)
              · have hg : A.tmps[101]?.getD undef = .bool false := hA.on 2 101 (by kernel_rfl) (by kernel_rfl)
                have s5 : A.tmps[5]?.getD undef = .int .i64 p := (hA.st 5 (by kernel_rfl)).trans rfl
                exact wpOp_want rfl rfl (by kernel_rfl) hg (wp_value (v := .int .i64 p) (W' := W) (by simp [execOp, Act.eval, s5, go_sem]) ⟨rfl, hB⟩)
              · have hg : A.tmps[101]?.getD undef = .bool false := hA.on 2 101 (by kernel_rfl) (by kernel_rfl)
                have s102 : A.tmps[102]?.getD undef = .int .i64 p := hA.on 3 102 (by kernel_rfl) (by kernel_rfl)
                exact wpOp_want rfl rfl (by kernel_rfl) hg (wp_value (v := .bool true) (W' := W) (by simp [execOp, Act.eval, s102, go_sem, hgt]) ⟨rfl, hB⟩)
              · have s101 : A.tmps[101]?.getD undef = .bool false := hA.on 2 101 (by kernel_rfl) (by kernel_rfl)
                have s103 : A.tmps[103]?.getD undef = .bool true := hA.on 4 103 (by kernel_rfl) (by kernel_rfl)
                exact wpOp_of rfl rfl (wp_value (v := .bool true) (W' := W) (by simp [execOp, Act.eval, s101, s103, go_sem]) ⟨rfl, hB⟩)
              · have s104 : A.tmps[104]?.getD undef = .bool true := hA.on 5 104 (by kernel_rfl) (by kernel_rfl)
                exact wpOp_of rfl rfl (wp_value (v := .bool true) (W' := W) (by simp [execOp, Act.eval, s104, go_sem]) ⟨rfl, hB⟩)
              · have hg : A.tmps[105]?.getD undef = .bool true := hA.on 6 105 (by kernel_rfl) (by kernel_rfl)
                exact wpOp_pass rfl rfl (by kernel_rfl) _ hg (by simp) ⟨rfl, hB⟩
              · have hg : A.tmps[105]?.getD undef = .bool true := hA.on 6 105 (by kernel_rfl) (by kernel_rfl)
                exact wpOp_pass rfl rfl (by kernel_rfl) _ hg (by simp) ⟨rfl, hB⟩
              · have hg : A.tmps[105]?.getD undef = .bool true := hA.on 6 105 (by kernel_rfl) (by kernel_rfl)
                exact wpOp_pass rfl rfl (by kernel_rfl) _ hg (by simp) ⟨rfl, hB⟩
              · have hg : A.tmps[105]?.getD undef = .bool true := hA.on 6 105 (by kernel_rfl) (by kernel_rfl)
                exact wpOp_pass rfl rfl (by kernel_rfl) _ hg (by simp) ⟨rfl, hB⟩
              · have hg : A.tmps[105]?.getD undef = .bool true := hA.on 6 105 (by kernel_rfl) (by kernel_rfl)
                exact wpOp_pass rfl rfl (by kernel_rfl) _ hg (by simp) ⟨rfl, hB⟩
              · have hg : A.tmps[105]?.getD undef = .bool true := hA.on 6 105 (by kernel_rfl) (by kernel_rfl)
                exact wpOp_pass rfl rfl (by kernel_rfl) _ hg (by simp) ⟨rfl, hB⟩
              · have hg : A.tmps[105]?.getD undef = .bool true := hA.on 6 105 (by kernel_rfl) (by kernel_rfl)
                exact wpOp_pass rfl rfl (by kernel_rfl) _ hg (by simp) ⟨rfl, hB⟩
              · have hg : A.tmps[105]?.getD undef = .bool true := hA.on 6 105 (by kernel_rfl) (by kernel_rfl)
                exact wpOp_pass rfl rfl (by kernel_rfl) _ hg (by simp) ⟨rfl, hB⟩
              · have hg : A.tmps[113]?.getD undef = undef := hA.on 14 113 (by kernel_rfl) (by kernel_rfl)
                exact wpOp_pass rfl rfl (by kernel_rfl) _ hg (by exact fun h => by cases h) ⟨rfl, hB⟩
              · have hg : A.tmps[113]?.getD undef = undef := hA.on 14 113 (by kernel_rfl) (by kernel_rfl)
                exact wpOp_pass rfl rfl (by kernel_rfl) _ hg (by exact fun h => by cases h) ⟨rfl, hB⟩
              · have hg : A.tmps[113]?.getD undef = undef := hA.on 14 113 (by kernel_rfl) (by kernel_rfl)
                exact wpOp_pass rfl rfl (by kernel_rfl) _ hg (by exact fun h => by cases h) ⟨rfl, hB⟩
              · have hg : A.tmps[113]?.getD undef = undef := hA.on 14 113 (by kernel_rfl) (by kernel_rfl)
                exact wpOp_pass rfl rfl (by kernel_rfl) _ hg (by exact fun h => by cases h) ⟨rfl, hB⟩
              · have hg : A.tmps[113]?.getD undef = undef := hA.on 14 113 (by kernel_rfl) (by kernel_rfl)
                exact wpOp_pass rfl rfl (by kernel_rfl) _ hg (by exact fun h => by cases h) ⟨rfl, hB⟩
              · have hg : A.tmps[113]?.getD undef = undef := hA.on 14 113 (by kernel_rfl) (by kernel_rfl)
                exact wpOp_pass rfl rfl (by kernel_rfl) _ hg (by exact fun h => by cases h) ⟨rfl, hB⟩
              · have hg : A.tmps[113]?.getD undef = undef := hA.on 14 113 (by kernel_rfl) (by kernel_rfl)
                exact wpOp_pass rfl rfl (by kernel_rfl) _ hg (by exact fun h => by cases h) ⟨rfl, hB⟩
              · have hg : A.tmps[105]?.getD undef = .bool true := hA.on 6 105 (by kernel_rfl) (by kernel_rfl)
                exact wpOp_pass rfl rfl (by kernel_rfl) _ hg (by simp) ⟨rfl, hB⟩
              · have s105 : A.tmps[105]?.getD undef = .bool true := hA.on 6 105 (by kernel_rfl) (by kernel_rfl)
                exact wpOp_of rfl rfl (wp_value (v := .bool true) (W' := W) (by simp [execOp, Act.eval, s105, go_sem]) ⟨rfl, hB⟩)
              · have s122 : A.tmps[122]?.getD undef = .bool true := hA.on 23 122 (by kernel_rfl) (by kernel_rfl)
                exact wpOp_of rfl rfl (wp_value (v := .bool true) (W' := W) (by simp [execOp, Act.eval, s122, go_sem]) ⟨rfl, hB⟩)
            intro wT hT
            simp only [RI.mergeL, List.getElem?_cons_zero, List.getElem?_cons_succ, Option.getD_some]
            go_wp2_with fail
            go_ret
            exact ⟨rfl, hT.q.b⟩
          · obtain ⟨hn1, hn2⟩ := HX.out (by omega) (by omega)
            refine RI.region_det (by kernel_rfl) [.int .i64 p, .bool false, .bool false, .int .i64 p, .bool false, .bool false, .bool false, valV x, valV z, .int .i64 d1, valV x, valV y, .int .i64 d, .bool true, .bool true, valV z, valV y, .int .i64 d2, valV x, valV y, .int .i64 d, .bool true, .bool true, .bool true, .bool true] (fun W => QZ w W w1.heap.size (w1.heap.size + 1) wq.heap.size (D7.vl x) (D7.vl y) (D7.vl z)) (none :: none :: some 24 :: none :: none :: none :: none :: none :: none :: none :: none :: none :: none :: none :: none :: none :: none :: none :: none :: none :: none :: none :: none :: none :: none :: none :: none :: none :: none :: none :: none :: none :: none :: none :: none :: none :: none :: none :: none :: none :: none :: none :: none :: none :: none :: none :: none :: none :: none :: none :: none :: none :: none :: none :: none :: none :: none :: none :: none :: none :: none :: none :: none :: none :: none :: none :: none :: none :: none :: none :: none :: none :: none :: none :: none :: none :: none :: none :: none :: none :: none :: none :: none :: none :: none :: none :: none :: none :: none :: none :: none :: none :: none :: none :: none :: none :: none :: none :: none :: some 0 :: some 1 :: some 2 :: some 3 :: some 4 :: some 5 :: some 6 :: some 7 :: some 8 :: some 9 :: some 10 :: some 11 :: some 12 :: some 13 :: some 14 :: some 15 :: some 16 :: some 17 :: some 18 :: some 19 :: some 20 :: some 21 :: some 22 :: some 23 :: []) (by kernel_rfl) (by kernel_rfl) (QZ.drew hZ3) ?_ ?_
            · intro i hi A W hB hA
              have hi2 : i < 25 := hi
              have hcase : i = 0 ∨ i = 1 ∨ i = 2 ∨ i = 3 ∨ i = 4 ∨ i = 5 ∨ i = 6 ∨ i = 7 ∨ i = 8 ∨ i = 9 ∨ i = 10 ∨ i = 11 ∨ i = 12 ∨ i = 13 ∨ i = 14 ∨ i = 15 ∨ i = 16 ∨ i = 17 ∨ i = 18 ∨ i = 19 ∨ i = 20 ∨ i = 21 ∨ i = 22 ∨ i = 23 ∨ i = 24 := by omega
              clear hi hi2
              rcases hcase with rfl | rfl | rfl | rfl | rfl | rfl | rfl | rfl | rfl | rfl | rfl | rfl | rfl | rfl | rfl | rfl | rfl | rfl | rfl | rfl | rfl | rfl | rfl | rfl | rfl
              · have s5 : A.tmps[5]?.getD undef = .int .i64 p := (hA.st 5 (by kernel_rfl)).trans rfl
                exact wpOp_of rfl rfl (wp_value (v := .int .i64 p) (W' := W) (by simp [execOp, Act.eval, s5, go_sem]) ⟨rfl, hB⟩)
              · have s99 : A.tmps[99]?.getD undef = .int .i64 p := hA.on 0 99 (by kernel_rfl) (by kernel_rfl)
                exact wpOp_of rfl rfl (wp_value (v := .bool false) (W' := W) (by simp [execOp, Act.eval, s99, go_sem, hlt]) ⟨rfl, hB⟩)
              · have s100 : A.tmps[100]?.getD undef = .bool false := hA.on 1 100 (by kernel_rfl) (by kernel_rfl)
                exact wpOp_of rfl rfl (wp_value (v := .bool false) (W' := W) (by simp [execOp, Act.eval, s100, go_sem]) ⟨rfl, hB⟩)
              · have hg : A.tmps[101]?.getD undef = .bool false := hA.on 2 101 (by kernel_rfl) (by kernel_rfl)
                have s5 : A.tmps[5]?.getD undef = .int .i64 p := (hA.st 5 (by kernel_rfl)).trans rfl
                exact wpOp_want rfl rfl (by kernel_rfl) hg (wp_value (v := .int .i64 p) (W' := W) (by simp [execOp, Act.eval, s5, go_sem]) ⟨rfl, hB⟩)
              · have hg : A.tmps[101]?.getD undef = .bool false := hA.on 2 101 (by kernel_rfl) (by kernel_rfl)
                have s102 : A.tmps[102]?.getD undef = .int .i64 p := hA.on 3 102 (by kernel_rfl) (by kernel_rfl)
                exact wpOp_want rfl rfl (by kernel_rfl) hg (wp_value (v := .bool false) (W' := W) (by simp [execOp, Act.eval, s102, go_sem, hgt]) ⟨rfl, hB⟩)
              · have s101 : A.tmps[101]?.getD undef = .bool false := hA.on 2 101 (by kernel_rfl) (by kernel_rfl)
                have s103 : A.tmps[103]?.getD undef = .bool false := hA.on 4 103 (by kernel_rfl) (by kernel_rfl)
                exact wpOp_of rfl rfl (wp_value (v := .bool false) (W' := W) (by simp [execOp, Act.eval, s101, s103, go_sem]) ⟨rfl, hB⟩)
              · have s104 : A.tmps[104]?.getD undef = .bool false := hA.on 5 104 (by kernel_rfl) (by kernel_rfl)
                exact wpOp_of rfl rfl (wp_value (v := .bool false) (W' := W) (by simp [execOp, Act.eval, s104, go_sem]) ⟨rfl, hB⟩)
              · have hg : A.tmps[105]?.getD undef = .bool false := hA.on 6 105 (by kernel_rfl) (by kernel_rfl)
                have s3 : A.tmps[3]?.getD undef = .pointer (some ⟨w1.heap.size, 0, none⟩) := (hA.st 3 (by kernel_rfl)).trans rfl
                obtain ⟨c0, c1, c2, c3, c4, c5, c6, _⟩ := seven_cells hB.q.x
                exact wpOp_want rfl rfl (by kernel_rfl) hg (wp_value (v := valV x) (W' := W) (by simp [execOp, Act.eval, s3, go_sem, c0, c1, c2, c3, c4, c5, c6, valV]) ⟨rfl, hB⟩)
              · have hg : A.tmps[105]?.getD undef = .bool false := hA.on 6 105 (by kernel_rfl) (by kernel_rfl)
                have s6 : A.tmps[6]?.getD undef = .pointer (some ⟨wq.heap.size, 0, none⟩) := (hA.st 6 (by kernel_rfl)).trans rfl
                obtain ⟨c0, c1, c2, c3, c4, c5, c6, _⟩ := seven_cells hB.z
                exact wpOp_want rfl rfl (by kernel_rfl) hg (wp_value (v := valV z) (W' := W) (by simp [execOp, Act.eval, s6, go_sem, c0, c1, c2, c3, c4, c5, c6, valV]) ⟨rfl, hB⟩)
              · have hg : A.tmps[105]?.getD undef = .bool false := hA.on 6 105 (by kernel_rfl) (by kernel_rfl)
                have s106 : A.tmps[106]?.getD undef = valV x := hA.on 7 106 (by kernel_rfl) (by kernel_rfl)
                have s107 : A.tmps[107]?.getD undef = valV z := hA.on 8 107 (by kernel_rfl) (by kernel_rfl)
                refine wpOp_want rfl rfl (by kernel_rfl) hg (wp_enter (f := 14) (args := #[valV x, valV z]) (by simp [execOp, Act.eval, s106, s107, go_sem]) ?_)
                refine (HAz.out W hB.q.b).mono ?_
                rintro e w' ⟨rfl, hb'⟩
                exact ⟨_, rfl, rfl, QZ.call hB hb'⟩
              · have hg : A.tmps[105]?.getD undef = .bool false := hA.on 6 105 (by kernel_rfl) (by kernel_rfl)
                have s3 : A.tmps[3]?.getD undef = .pointer (some ⟨w1.heap.size, 0, none⟩) := (hA.st 3 (by kernel_rfl)).trans rfl
                obtain ⟨c0, c1, c2, c3, c4, c5, c6, _⟩ := seven_cells hB.q.x
                exact wpOp_want rfl rfl (by kernel_rfl) hg (wp_value (v := valV x) (W' := W) (by simp [execOp, Act.eval, s3, go_sem, c0, c1, c2, c3, c4, c5, c6, valV]) ⟨rfl, hB⟩)
              · have hg : A.tmps[105]?.getD undef = .bool false := hA.on 6 105 (by kernel_rfl) (by kernel_rfl)
                have s4 : A.tmps[4]?.getD undef = .pointer (some ⟨w1.heap.size + 1, 0, none⟩) := (hA.st 4 (by kernel_rfl)).trans rfl
                obtain ⟨c0, c1, c2, c3, c4, c5, c6, _⟩ := seven_cells hB.q.y
                exact wpOp_want rfl rfl (by kernel_rfl) hg (wp_value (v := valV y) (W' := W) (by simp [execOp, Act.eval, s4, go_sem, c0, c1, c2, c3, c4, c5, c6, valV]) ⟨rfl, hB⟩)
              · have hg : A.tmps[105]?.getD undef = .bool false := hA.on 6 105 (by kernel_rfl) (by kernel_rfl)
                have s109 : A.tmps[109]?.getD undef = valV x := hA.on 10 109 (by kernel_rfl) (by kernel_rfl)
                have s110 : A.tmps[110]?.getD undef = valV y := hA.on 11 110 (by kernel_rfl) (by kernel_rfl)
                refine wpOp_want rfl rfl (by kernel_rfl) hg (wp_enter (f := 14) (args := #[valV x, valV y]) (by simp [execOp, Act.eval, s109, s110, go_sem]) ?_)
                refine (HAy.out W hB.q.b).mono ?_
                rintro e w' ⟨rfl, hb'⟩
                exact ⟨_, rfl, rfl, QZ.call hB hb'⟩
              · have hg : A.tmps[105]?.getD undef = .bool false := hA.on 6 105 (by kernel_rfl) (by kernel_rfl)
                have s108 : A.tmps[108]?.getD undef = .int .i64 d1 := hA.on 9 108 (by kernel_rfl) (by kernel_rfl)
                have s111 : A.tmps[111]?.getD undef = .int .i64 d := hA.on 12 111 (by kernel_rfl) (by kernel_rfl)
                exact wpOp_want rfl rfl (by kernel_rfl) hg (wp_value (v := .bool true) (W' := W) (by simp [execOp, Act.eval, s108, s111, go_sem, hn1]) ⟨rfl, hB⟩)
              · have hg : A.tmps[105]?.getD undef = .bool false := hA.on 6 105 (by kernel_rfl) (by kernel_rfl)
                have s112 : A.tmps[112]?.getD undef = .bool true := hA.on 13 112 (by kernel_rfl) (by kernel_rfl)
                exact wpOp_want rfl rfl (by kernel_rfl) hg (wp_value (v := .bool true) (W' := W) (by simp [execOp, Act.eval, s112, go_sem]) ⟨rfl, hB⟩)
              · have hg : A.tmps[113]?.getD undef = .bool true := hA.on 14 113 (by kernel_rfl) (by kernel_rfl)
                have s6 : A.tmps[6]?.getD undef = .pointer (some ⟨wq.heap.size, 0, none⟩) := (hA.st 6 (by kernel_rfl)).trans rfl
                obtain ⟨c0, c1, c2, c3, c4, c5, c6, _⟩ := seven_cells hB.z
                exact wpOp_want rfl rfl (by kernel_rfl) hg (wp_value (v := valV z) (W' := W) (by simp [execOp, Act.eval, s6, go_sem, c0, c1, c2, c3, c4, c5, c6, valV]) ⟨rfl, hB⟩)
              · have hg : A.tmps[113]?.getD undef = .bool true := hA.on 14 113 (by kernel_rfl) (by kernel_rfl)
                have s4 : A.tmps[4]?.getD undef = .pointer (some ⟨w1.heap.size + 1, 0, none⟩) := (hA.st 4 (by kernel_rfl)).trans rfl
                obtain ⟨c0, c1, c2, c3, c4, c5, c6, _⟩ := seven_cells hB.q.y
                exact wpOp_want rfl rfl (by kernel_rfl) hg (wp_value (v := valV y) (W' := W) (by simp [execOp, Act.eval, s4, go_sem, c0, c1, c2, c3, c4, c5, c6, valV]) ⟨rfl, hB⟩)
              · have hg : A.tmps[113]?.getD undef = .bool true := hA.on 14 113 (by kernel_rfl) (by kernel_rfl)
                have s114 : A.tmps[114]?.getD undef = valV z := hA.on 15 114 (by kernel_rfl) (by kernel_rfl)
                have s115 : A.tmps[115]?.getD undef = valV y := hA.on 16 115 (by kernel_rfl) (by kernel_rfl)
                refine wpOp_want rfl rfl (by kernel_rfl) hg (wp_enter (f := 14) (args := #[valV z, valV y]) (by simp [execOp, Act.eval, s114, s115, go_sem]) ?_)
                refine (HAb.out W hB.q.b).mono ?_
                rintro e w' ⟨rfl, hb'⟩
                exact ⟨_, rfl, rfl, QZ.call hB hb'⟩
              · have hg : A.tmps[113]?.getD undef = .bool true := hA.on 14 113 (by kernel_rfl) (by kernel_rfl)
                have s3 : A.tmps[3]?.getD undef = .pointer (some ⟨w1.heap.size, 0, none⟩) := (hA.st 3 (by kernel_rfl)).trans rfl
                obtain ⟨c0, c1, c2, c3, c4, c5, c6, _⟩ := seven_cells hB.q.x
                exact wpOp_want rfl rfl (by kernel_rfl) hg (wp_value (v := valV x) (W' := W) (by simp [execOp, Act.eval, s3, go_sem, c0, c1, c2, c3, c4, c5, c6, valV]) ⟨rfl, hB⟩)
              · have hg : A.tmps[113]?.getD undef = .bool true := hA.on 14 113 (by kernel_rfl) (by kernel_rfl)
                have s4 : A.tmps[4]?.getD undef = .pointer (some ⟨w1.heap.size + 1, 0, none⟩) := (hA.st 4 (by kernel_rfl)).trans rfl
                obtain ⟨c0, c1, c2, c3, c4, c5, c6, _⟩ := seven_cells hB.q.y
                exact wpOp_want rfl rfl (by kernel_rfl) hg (wp_value (v := valV y) (W' := W) (by simp [execOp, Act.eval, s4, go_sem, c0, c1, c2, c3, c4, c5, c6, valV]) ⟨rfl, hB⟩)
              · have hg : A.tmps[113]?.getD undef = .bool true := hA.on 14 113 (by kernel_rfl) (by kernel_rfl)
                have s117 : A.tmps[117]?.getD undef = valV x := hA.on 18 117 (by kernel_rfl) (by kernel_rfl)
                have s118 : A.tmps[118]?.getD undef = valV y := hA.on 19 118 (by kernel_rfl) (by kernel_rfl)
                refine wpOp_want rfl rfl (by kernel_rfl) hg (wp_enter (f := 14) (args := #[valV x, valV y]) (by simp [execOp, Act.eval, s117, s118, go_sem]) ?_)
                refine (HAy.out W hB.q.b).mono ?_
                rintro e w' ⟨rfl, hb'⟩
                exact ⟨_, rfl, rfl, QZ.call hB hb'⟩
              · have hg : A.tmps[113]?.getD undef = .bool true := hA.on 14 113 (by kernel_rfl) (by kernel_rfl)
                have s116 : A.tmps[116]?.getD undef = .int .i64 d2 := hA.on 17 116 (by kernel_rfl) (by kernel_rfl)
                have s119 : A.tmps[119]?.getD undef = .int .i64 d := hA.on 20 119 (by kernel_rfl) (by kernel_rfl)
                exact wpOp_want rfl rfl (by kernel_rfl) hg (wp_value (v := .bool true) (W' := W) (by simp [execOp, Act.eval, s116, s119, go_sem, hn2]) ⟨rfl, hB⟩)
              · have hg : A.tmps[105]?.getD undef = .bool false := hA.on 6 105 (by kernel_rfl) (by kernel_rfl)
                have s113 : A.tmps[113]?.getD undef = .bool true := hA.on 14 113 (by kernel_rfl) (by kernel_rfl)
                have s120 : A.tmps[120]?.getD undef = .bool true := hA.on 21 120 (by kernel_rfl) (by kernel_rfl)
                exact wpOp_want rfl rfl (by kernel_rfl) hg (wp_value (v := .bool true) (W' := W) (by simp [execOp, Act.eval, s113, s120, go_sem]) ⟨rfl, hB⟩)
              · have s105 : A.tmps[105]?.getD undef = .bool false := hA.on 6 105 (by kernel_rfl) (by kernel_rfl)
                have s121 : A.tmps[121]?.getD undef = .bool true := hA.on 22 121 (by kernel_rfl) (by kernel_rfl)
                exact wpOp_of rfl rfl (wp_value (v := .bool true) (W' := W) (by simp [execOp, Act.eval, s105, s121, go_sem]) ⟨rfl, hB⟩)
              · have s122 : A.tmps[122]?.getD undef = .bool true := hA.on 23 122 (by kernel_rfl) (by kernel_rfl)
                exact wpOp_of rfl rfl (wp_value (v := .bool true) (W' := W) (by simp [execOp, Act.eval, s122, go_sem]) ⟨rfl, hB⟩)
            intro wT hT
            simp only [RI.mergeL, List.getElem?_cons_zero, List.getElem?_cons_succ, Option.getD_some]
            go_wp2_with fail
            go_ret
            exact ⟨rfl, hT.q.b⟩
    · have hz0 : z = Va.zero := by
        rw [← ez]
        unfold P7.mixed
        rw [if_neg (by rw [eOA, eOB]; exact hok)]
      have heq0 : ∀ w', (Op.equalIn 10000 25 (.agg #[.int .i64 z.k, .int .i64 z.n, .int .i64 z.r, .int .i64 z.g, .int .i64 z.b, .int .i64 z.c, .string ⟨z.w.toArray⟩]) (.agg #[.int .i64 0, .int .i64 0, .int .i64 0, .int .i64 0, .int .i64 0, .int .i64 0, .string ⟨#[]⟩])).run Tryz.prog w' = .ok true w' := fun w' => by
        have h := eqV z Va.zero w'
        rw [show Va.same z Va.zero = true by rw [hz0]; exact same_self _] at h
        exact h
      clear hz0 HC HM HMS
      cases OA
      · go_wp2_with (first | (go_at_call 12; have hz := hZ1; refine (HVy.out _).mono ?_; rintro e w' ⟨rfl, hb'⟩; have hZ2 := QZ.call hZ1 hb'; obtain ⟨q0, q1, q2, q3, q4, q5, q6, _⟩ := seven_cells hZ2.q.x; obtain ⟨u0, u1, u2, u3, u4, u5, u6, _⟩ := seven_cells hZ2.q.y; obtain ⟨v0, v1, v2, v3, v4, v5, v6, _⟩ := seven_cells hZ2.z) | (go_at_call 12; refine (HVx.out _).mono ?_; rintro e w' ⟨rfl, hb'⟩; have hZ1 := QZ.call hR hb'; obtain ⟨q0, q1, q2, q3, q4, q5, q6, _⟩ := seven_cells hZ1.q.x; obtain ⟨u0, u1, u2, u3, u4, u5, u6, _⟩ := seven_cells hZ1.q.y; obtain ⟨v0, v1, v2, v3, v4, v5, v6, _⟩ := seven_cells hZ1.z))
        go_ret
        exact ⟨rfl, hZ1.q.b⟩
      · cases OB
        · go_wp2_with (first | (go_at_call 12; have hz := hZ1; refine (HVy.out _).mono ?_; rintro e w' ⟨rfl, hb'⟩; have hZ2 := QZ.call hZ1 hb'; obtain ⟨q0, q1, q2, q3, q4, q5, q6, _⟩ := seven_cells hZ2.q.x; obtain ⟨u0, u1, u2, u3, u4, u5, u6, _⟩ := seven_cells hZ2.q.y; obtain ⟨v0, v1, v2, v3, v4, v5, v6, _⟩ := seven_cells hZ2.z) | (go_at_call 12; refine (HVx.out _).mono ?_; rintro e w' ⟨rfl, hb'⟩; have hZ1 := QZ.call hR hb'; obtain ⟨q0, q1, q2, q3, q4, q5, q6, _⟩ := seven_cells hZ1.q.x; obtain ⟨u0, u1, u2, u3, u4, u5, u6, _⟩ := seven_cells hZ1.q.y; obtain ⟨v0, v1, v2, v3, v4, v5, v6, _⟩ := seven_cells hZ1.z))
          go_ret
          exact ⟨rfl, hZ2.q.b⟩
        · by_cases hlow : p < -131072
          · go_wp2_with (first | (go_at_call 12; have hz := hZ1; refine (HVy.out _).mono ?_; rintro e w' ⟨rfl, hb'⟩; have hZ2 := QZ.call hZ1 hb'; obtain ⟨q0, q1, q2, q3, q4, q5, q6, _⟩ := seven_cells hZ2.q.x; obtain ⟨u0, u1, u2, u3, u4, u5, u6, _⟩ := seven_cells hZ2.q.y; obtain ⟨v0, v1, v2, v3, v4, v5, v6, _⟩ := seven_cells hZ2.z) | (go_at_call 12; refine (HVx.out _).mono ?_; rintro e w' ⟨rfl, hb'⟩; have hZ1 := QZ.call hR hb'; obtain ⟨q0, q1, q2, q3, q4, q5, q6, _⟩ := seven_cells hZ1.q.x; obtain ⟨u0, u1, u2, u3, u4, u5, u6, _⟩ := seven_cells hZ1.q.y; obtain ⟨v0, v1, v2, v3, v4, v5, v6, _⟩ := seven_cells hZ1.z))
            go_ret
            exact ⟨rfl, hZ2.q.b⟩
          · have hhigh : 196608 < p := by
              by_cases h : 196608 < p
              · exact h
              · exact absurd ⟨rfl, rfl, by omega, by omega⟩ hok
            clear hok
            go_wp2_with (first | (go_at_call 12; have hz := hZ1; refine (HVy.out _).mono ?_; rintro e w' ⟨rfl, hb'⟩; have hZ2 := QZ.call hZ1 hb'; obtain ⟨q0, q1, q2, q3, q4, q5, q6, _⟩ := seven_cells hZ2.q.x; obtain ⟨u0, u1, u2, u3, u4, u5, u6, _⟩ := seven_cells hZ2.q.y; obtain ⟨v0, v1, v2, v3, v4, v5, v6, _⟩ := seven_cells hZ2.z) | (go_at_call 12; refine (HVx.out _).mono ?_; rintro e w' ⟨rfl, hb'⟩; have hZ1 := QZ.call hR hb'; obtain ⟨q0, q1, q2, q3, q4, q5, q6, _⟩ := seven_cells hZ1.q.x; obtain ⟨u0, u1, u2, u3, u4, u5, u6, _⟩ := seven_cells hZ1.q.y; obtain ⟨v0, v1, v2, v3, v4, v5, v6, _⟩ := seven_cells hZ1.z))
            go_ret
            exact ⟨rfl, hZ2.q.b⟩

set_option maxRecDepth 100000 in
theorem lifted (os : Os) (started : os.Started) (H : Type) (enc : TypeId × Value → H) :
    ReturnsInHanded {} Tryz.checked os 3 .any (fun w args => (Rows.fnMixedSpec.pre enc Tryz.prog Tryz.f3 Rows.fnMixedRow.domain false w args ∧ laidMetH Tryz.prog Rows.fnMixedRow.laid w) ∧ sizedMet enc Tryz.prog Tryz.f3 (OpenSpec.ofChange Rows.fnMixedSpec) false w args)
      (Rows.fnMixedSpec.post enc Tryz.prog Tryz.f3 false true false false) := by
  refine returnsInHanded_of_calls (C := Tryz.checked) own started (by kernel_rfl)
    (ChangeSpec.witness_shaped (enc := enc) (C := Tryz.checked) (os := os) (X := fun w _ => laidMetH Tryz.prog Rows.fnMixedRow.laid w) false (World.laidAll Tryz.prog os Rows.fnMixedRow.laid) #[.slice none 0 0] 8 (World.laidAll_os _ _ _)
      (World.shaped_of_ZipB (by kernel_rfl) (by kernel_rfl)) (by kernel_rfl) (by kernel_rfl) (by kernel_rfl)
      (by rw [MakeChecks.laidMetH_plain _ _ _ (by kernel_rfl)]; exact laidMet_laidAll _ (by kernel_rfl) (by kernel_rfl))) ?_
  intro w0 tape i _ hsh0 _ hok hpre _
  obtain ⟨_, _, _, fn', hfn', _, _, _, _, hval00⟩ := hok
  obtain rfl : fn' = Tryz.f3 := Option.some.inj (hfn'.symm.trans Tryz.func3)
  obtain ⟨⟨⟨ds, gs, before, hw, _⟩, hx⟩, _⟩ := hpre
  have hW0 := DataW.Whole.of_heap (w' := w0.forCall tape i) (by rfl) hw
  have hL0 : laidMetH Tryz.prog Rows.fnMixedRow.laid (w0.forCall tape i) := hx.of_heap (by rfl)
  suffices hgo : ∀ (W : World) (base : Nat) (args : Array Value), (∀ (j : Nat) t v, Tryz.f3.params[j]? = some t → args[j]? = some v → Value.okWide Tryz.prog W .any base t v) →
      DataW.Whole enc Tryz.prog Tryz.f3.params.toList Rows.fnMixedSpec.vars false W args.toList ds gs before → laidMetH Tryz.prog Rows.fnMixedRow.laid W → W.ShapedOpen Tryz.prog →
      Calls Tryz.prog 3 args W fun e W' => ∃ v, e = .returned v ∧ Rows.fnMixedSpec.post enc Tryz.prog Tryz.f3 false true false false W args v W' by
    refine (hgo _ _ _ hval00 hW0 hL0 hsh0).mono fun e W' ⟨v, he, hp⟩ => ?_
    subst he
    exact ChangeSpec.post_blind hp
  clear hsh0 hval00 hW0 hL0 hx hw hfn'
  intro W base args hval0 hW hL hsh
  have hval : ∀ (j : Nat) t v, Tryz.f3.params[j]? = some t → args[j]? = some v → Value.okWide Tryz.prog W .any base t v := hval0
  have hW' := hW
  obtain ⟨p, q, hA0, hV, rfl, hfz, hnd⟩ := hW
  have hA : DataW.TrodAll enc Tryz.prog W 0 (fun _ => true) true Tryz.f3.params.toList args.toList ds p := hA0
  rw [Tryz.params3] at hA hval
  obtain ⟨v0, vs0, d0, ds0, p0, q0, hargs, rfl, rfl, h0, r0⟩ := trodAll_cons hA
  obtain ⟨rfl, rfl, rfl⟩ := trodAll_nil r0
  obtain rfl : args = #[v0] := by cases args; simp_all
  obtain ⟨rfl, rfl⟩ := trodVars_none hV
  have k0 := h0
  have lt0 : ∀ x ∈ p0, x.block < W.heap.size := by obtain ⟨m, hm⟩ := k0; exact DataW.trod_lt m _ _ _ hm
  obtain ⟨a0, len0, cap0, rfl, w0⟩ := open_bytes (hval 0 22 v0 rfl rfl) h0
  refine (walk a0 len0 cap0 W w0 (B7.laid_fnMixed hL)).mono fun e W' ⟨he, bel⟩ => ?_
  subst he
  exact ⟨_, rfl, _, _, _, [], _, [], hW', trodAll_mk1 (shut_bool Tryz.underlying4 _), (trodAll_cons_mk (Below.trod laidOut (by kernel_rfl) (of_decide_eq_true (by kernel_rfl)) k0 bel lt0) trodAll_mk0), rfl, bel.frame _, fun h => by cases h⟩

theorem over : Rows.fnMixedRow.holds Tryz.pinned (OpenSpec.ofChange Rows.fnMixedSpec) :=
  OpenClaim.holds_of_wide 3 Tryz.f3 rfl rfl rfl rfl rfl rfl rfl ⟨rfl, rfl, rfl, rfl, rfl⟩ rfl rfl rfl rfl rfl (by kernel_rfl) Tryz.func3 (by kernel_rfl)
    (of_decide_eq_true (by kernel_rfl)) (by unfold Func.isWrapper; first | (rw [if_pos (by decide +kernel)]; kernel_rfl) | (rw [if_neg (by decide +kernel)]; exact ⟨rfl, rfl⟩))
    (fun os started H enc _ => lifted os started H enc)

theorem proved : Rows.FnMixedCardSaid :=
  Claim7.holds_tied_plain_at .later [] [.data, .data, .data, .sentinel, .sentinel] true (true, "173021e89407a0c17d0f60a5870bac83494254d9b844dabb309ea1128aba3a4a") true over (fun _ h => by cases h) (by kernel_rfl) (fun _ h => by cases h) fnMixed_row_tie rfl ⟨rfl, rfl⟩ (by kernel_rfl) rfl
    (fun f fn hf hfn => by
      obtain rfl : f = 3 := Option.some.inj ((show Tryz.prog.funcNamed "loop.example/g00521/laws.FnMixed" = some 3 by kernel_rfl).symm.trans hf) |>.symm
      obtain rfl : fn = Tryz.f3 := (Option.some.inj (Tryz.func3.symm.trans hfn)).symm
      exact ⟨by kernel_rfl, fun j t ht => by
        have hm : t ∈ Tryz.f3.params.toList := by simpa using Array.mem_of_getElem? ht
        have hall : (Tryz.f3.params.toList.all fun u => !Tryz.prog.wantsStandIn u) = true := by kernel_rfl
        exact (show Tryz.prog.wantsStandIn t = false by simpa using List.all_eq_true.1 hall t hm)⟩)
    (by kernel_rfl)
#print axioms proved
end Go.Proofs.YtkeofllcccgbbaaGreatDoor.fnMixed
