/- Proved: for every slice of bytes FnKept answers true: of what the bytes draw, what is mixed of two that fit, however far, and kept, fits; what fits is kept as it is. No condition. -/
import Derived.Test.YtjgfbbjecbeipaaGreatDoorBase8
import Derived.Test.YtjgfbbjecbeipaaGreatDoorDraw8
import Derived.Test.YtjgfbbjecbeipaaGreatDoorImp8f
import Derived.Test.YtjgfbbjecbeipaaGreatDoorMade7
import Derived.Test.YtjgfbbjecbeipaaGreatDoorBase7n
import Derived.Test.YtjgfbbjecbeipaaGreatDoorDoor8
import Derived.Test.YtjgfbbjecbeipaaGreatDoorOpenB
import Derived.Test.YtjgfbbjecbeipaaGreatDoorInv
import Derived.Test.YtjgfbbjecbeipaaGreatDoorImp5f
import Derived.Deep.RegionHeld3
import Derived.Test.YtjgfbbjecbeipaaGreatDoorRows
import Derived.Test.YtjgfbbjecbeipaaGreatDoorCards
import Derived.Test.YtjgfbbjecbeipaaGreatDoorTie
import Derived.WalkKit
import Derived.ProofKit
import Derived.OpenShut
import Derived.ShutString
import Derived.ChangeOld
import Derived.Below
import Derived.OpenVars
import Derived.ChangeVars
import Derived.Handed
import Derived.Lay
import Derived.LaidLaws
import Derived.MakeChecks
import Derived.SevenTiedAt
import Derived.Stop.Joined
namespace Go.Proofs.YtjgfbbjecbeipaaGreatDoor.fnKept
open Go.ChangeShapes Go.WideShapes Go.ChangeAt Go.RowKit
open Go.ChangeMaps (open_string shut_string)
set_option linter.unusedVariables false

theorem own : ownKnob Tryz.prog.godebug = none := by kernel_rfl
theorem laidOut : laidOutB Tryz.prog = true := by kernel_rfl

open Go.Proofs.YtjgfbbjecbeipaaGreatDoor.P1 Go.Proofs.YtjgfbbjecbeipaaGreatDoor.B1 Go.Proofs.YtjgfbbjecbeipaaGreatDoor.B2 Go.Proofs.YtjgfbbjecbeipaaGreatDoor.T1 Go.Proofs.YtjgfbbjecbeipaaGreatDoor.BT Go.Proofs.YtjgfbbjecbeipaaGreatDoor.P5 Go.Proofs.YtjgfbbjecbeipaaGreatDoor.P6 Go.Proofs.YtjgfbbjecbeipaaGreatDoor.P8 Go.Proofs.YtjgfbbjecbeipaaGreatDoor.B5 Go.Proofs.YtjgfbbjecbeipaaGreatDoor.B6 Go.Proofs.YtjgfbbjecbeipaaGreatDoor.B7 Go.Proofs.YtjgfbbjecbeipaaGreatDoor.B8 Go.Proofs.YtjgfbbjecbeipaaGreatDoor.S7 Go.Proofs.YtjgfbbjecbeipaaGreatDoor.D1 Go.Proofs.YtjgfbbjecbeipaaGreatDoor.RI
theorem cells_open {w : World} {b : Nat} {x : Va} (h : LBlk w b (cellsV x)) : w.cell? ⟨b, 0, none⟩ = some (.int .i64 x.k) ∧ w.cell? ⟨b, 1, none⟩ = some (.int .i64 x.n) ∧ w.cell? ⟨b, 2, none⟩ = some (.int .i64 x.r) ∧ w.cell? ⟨b, 3, none⟩ = some (.int .i64 x.g) ∧ w.cell? ⟨b, 4, none⟩ = some (.int .i64 x.b) ∧ w.cell? ⟨b, 5, none⟩ = some (.int .i64 x.c) ∧ w.cell? ⟨b, 6, none⟩ = some (.string ⟨x.w.toArray⟩) := by
  obtain ⟨c0, c1, c2, c3, c4, c5, c6, _⟩ := seven_cells h
  exact ⟨c0, c1, c2, c3, c4, c5, c6⟩

theorem mixed_len {x y : Va} (p : Int) (hx : x.w.length ≤ 100) (hy : y.w.length ≤ 100) : (P7.mixed x y p).w.length ≤ 100 := by
  unfold P7.mixed
  repeat' split
  all_goals first | assumption | (simp [Va.zero, P7.shownW])

theorem kept_len {x : Va} (l : Int) (hx : x.w.length ≤ 100) : (kept l x).w.length ≤ 100 := by
  unfold kept
  split
  · exact hx
  · decide
set_option maxRecDepth 100000 in
set_option maxHeartbeats 8000000 in
theorem walk (A0 : Option Addr) (len0 cap0 : Nat) (w : World) (w0 : len0 ≤ 4096 → Bytes w w.heap.size A0 len0) (L : B5.Pow w) :
    Calls Tryz.prog 4 #[.slice A0 len0 cap0] w (Ans (.bool true) w) := by
  have HP := Lib.hid L
  clear L
  by_cases hbig : 4096 < len0
  · go_enter Tryz.func4, Tryz.ntmps4
    go_wp2
    go_ret
    exact ⟨rfl, Below.refl _ _⟩
  · have hb := w0 (by omega)
    clear w0
    have HBY := Lib.hid (fun w' (hq : Below w.heap.size w w') => hb.below hq)
    clear hb
    go_enter Tryz.func4, Tryz.ntmps4
    go_wp2_with (first | (go_at_call 5; go_in) | fail)
    refine (D8.Kept_draw _ A0 len0 cap0 (HBY.out _ (Below.refl _ _))).mono ?_
    rintro e w1 ⟨l, x, rfl, hl, hxl, g1⟩
    have HR : ∀ l, D8.InLook l → -9223372036854775808 ≤ l ∧ l ≤ 9223372036854775807 := fun l h => by unfold D8.InLook at h; omega
    have hQ := Q1.new g1 (cellsV x) 29
    clear g1
    obtain ⟨y, ey⟩ : ∃ y, kept l x = y := ⟨_, rfl⟩
    have hyl : y.w.length ≤ 100 := ey ▸ kept_len l hxl
    unfold valV
    obtain ⟨q0, q1, q2, q3, q4, q5, q6⟩ := cells_open hQ.x
    go_wp2_with fail
    refine (ey ▸ Kept_impl l x (HR l hl) _ (by omega)).mono ?_
    rintro e w2 ⟨rfl, g2⟩
    replace hQ := Q1.two (Q1.call hQ g2) (cellsV y) 29
    obtain ⟨b1, e1⟩ : ∃ b1, w1.heap.size = b1 := ⟨_, rfl⟩
    obtain ⟨b2, e2⟩ : ∃ b2, w2.heap.size = b2 := ⟨_, rfl⟩
    rw [e1, e2] at hQ
    rw [e1]
    clear g2 e1 q0 q1 q2 q3 q4 q5 q6
    have HKS := Lib.hid (fun w' => ey ▸ Kept_spec l x w')
    have HKY := Lib.hid (fun w' => (show kept l y = y by rw [← ey]; exact P8.kept_twice l x) ▸ Kept_impl l y (HR l hl) w' (by omega))
    have HFI := Lib.hid (fun w' (hq : Below w.heap.size w w') => Fits_impl l x (HR l hl) (by omega) w' (HP.out.on hq))
    obtain ⟨FT, eF⟩ : ∃ FT, fits l x = FT := ⟨_, rfl⟩
    rw [eF] at HFI
    unfold valV
    go_upto_region 5 with (fail)
    clear e2
    cases FT
    · clear eF
      refine RI.region_det (by kernel_rfl) [valV y, .int .i64 l, valV x, valV y, .bool false, .bool false, .int .i64 l, valV x, .bool false, .bool false, undef, undef, undef, .bool false, .bool false, .bool false, .int .i64 l, valV y, valV y, valV y, .bool false, .bool false] (fun W => Q7 w W b1 b2 (cellsV x) (cellsV y)) (none :: none :: none :: none :: none :: none :: none :: none :: none :: none :: none :: none :: none :: none :: none :: none :: none :: none :: none :: none :: some 0 :: some 1 :: some 2 :: some 3 :: some 4 :: some 5 :: some 6 :: some 7 :: some 8 :: some 9 :: some 10 :: some 11 :: some 12 :: some 13 :: some 14 :: some 15 :: some 16 :: some 17 :: some 18 :: some 19 :: some 20 :: some 21 :: none :: none :: none :: none :: none :: none :: none :: none :: none :: none :: none :: none :: none :: none :: none :: none :: none :: none :: none :: none :: none :: none :: none :: none :: none :: none :: none :: none :: none :: none :: none :: none :: none :: none :: none :: none :: none :: none :: none :: none :: none :: []) (by kernel_rfl) (by kernel_rfl) (Q7.drew hQ) ?_ ?_
      · intro i hi A W hB hA
        have hi2 : i < 22 := hi
        have hcase : i = 0 ∨ i = 1 ∨ i = 2 ∨ i = 3 ∨ i = 4 ∨ i = 5 ∨ i = 6 ∨ i = 7 ∨ i = 8 ∨ i = 9 ∨ i = 10 ∨ i = 11 ∨ i = 12 ∨ i = 13 ∨ i = 14 ∨ i = 15 ∨ i = 16 ∨ i = 17 ∨ i = 18 ∨ i = 19 ∨ i = 20 ∨ i = 21 := by omega
        clear hi hi2
        rcases hcase with rfl | rfl | rfl | rfl | rfl | rfl | rfl | rfl | rfl | rfl | rfl | rfl | rfl | rfl | rfl | rfl | rfl | rfl | rfl | rfl | rfl | rfl
        · have s5 : A.tmps[5]?.getD undef = .pointer (some ⟨b2, 0, none⟩) := (hA.st 5 (by kernel_rfl)).trans rfl
          obtain ⟨c0, c1, c2, c3, c4, c5, c6⟩ := cells_open hB.y
          exact wpOp_of rfl rfl (wp_value (v := valV y) (W' := W) (by simp [execOp, Act.eval, s5, go_sem, c0, c1, c2, c3, c4, c5, c6, valV]) ⟨rfl, hB⟩)
        · have s3 : A.tmps[3]?.getD undef = .int .i64 l := (hA.st 3 (by kernel_rfl)).trans rfl
          exact wpOp_of rfl rfl (wp_value (v := .int .i64 l) (W' := W) (by simp [execOp, Act.eval, s3, go_sem]) ⟨rfl, hB⟩)
        · have s4 : A.tmps[4]?.getD undef = .pointer (some ⟨b1, 0, none⟩) := (hA.st 4 (by kernel_rfl)).trans rfl
          obtain ⟨c0, c1, c2, c3, c4, c5, c6⟩ := cells_open hB.x
          exact wpOp_of rfl rfl (wp_value (v := valV x) (W' := W) (by simp [execOp, Act.eval, s4, go_sem, c0, c1, c2, c3, c4, c5, c6, valV]) ⟨rfl, hB⟩)
        · have s21 : A.tmps[21]?.getD undef = .int .i64 l := hA.on 1 21 (by kernel_rfl) (by kernel_rfl)
          have s22 : A.tmps[22]?.getD undef = valV x := hA.on 2 22 (by kernel_rfl) (by kernel_rfl)
          refine wpOp_of rfl rfl (wp_enter (f := 24) (args := #[.int .i64 l, valV x]) (by simp [execOp, Act.eval, s21, s22, go_sem]) ?_)
          refine (HKS.out W).mono ?_
          rintro e w' ⟨rfl, hb'⟩
          exact ⟨_, rfl, rfl, Q7.call hB hb'⟩
        · have s20 : A.tmps[20]?.getD undef = valV y := hA.on 0 20 (by kernel_rfl) (by kernel_rfl)
          have s23 : A.tmps[23]?.getD undef = valV y := hA.on 3 23 (by kernel_rfl) (by kernel_rfl)
          exact wpOp_of rfl rfl (wp_value (v := .bool false) (W' := W) (by simp [execOp, Act.eval, s20, s23, go_sem, guardV, neqV, same_self]) ⟨rfl, hB⟩)
        · have s24 : A.tmps[24]?.getD undef = .bool false := hA.on 4 24 (by kernel_rfl) (by kernel_rfl)
          exact wpOp_of rfl rfl (wp_value (v := .bool false) (W' := W) (by simp [execOp, Act.eval, s24, go_sem]) ⟨rfl, hB⟩)
        · have hg : A.tmps[25]?.getD undef = .bool false := hA.on 5 25 (by kernel_rfl) (by kernel_rfl)
          have s3 : A.tmps[3]?.getD undef = .int .i64 l := (hA.st 3 (by kernel_rfl)).trans rfl
          exact wpOp_want rfl rfl (by kernel_rfl) hg (wp_value (v := .int .i64 l) (W' := W) (by simp [execOp, Act.eval, s3, go_sem]) ⟨rfl, hB⟩)
        · have hg : A.tmps[25]?.getD undef = .bool false := hA.on 5 25 (by kernel_rfl) (by kernel_rfl)
          have s4 : A.tmps[4]?.getD undef = .pointer (some ⟨b1, 0, none⟩) := (hA.st 4 (by kernel_rfl)).trans rfl
          obtain ⟨c0, c1, c2, c3, c4, c5, c6⟩ := cells_open hB.x
          exact wpOp_want rfl rfl (by kernel_rfl) hg (wp_value (v := valV x) (W' := W) (by simp [execOp, Act.eval, s4, go_sem, c0, c1, c2, c3, c4, c5, c6, valV]) ⟨rfl, hB⟩)
        · have hg : A.tmps[25]?.getD undef = .bool false := hA.on 5 25 (by kernel_rfl) (by kernel_rfl)
          have s26 : A.tmps[26]?.getD undef = .int .i64 l := hA.on 6 26 (by kernel_rfl) (by kernel_rfl)
          have s27 : A.tmps[27]?.getD undef = valV x := hA.on 7 27 (by kernel_rfl) (by kernel_rfl)
          refine wpOp_want rfl rfl (by kernel_rfl) hg (wp_enter (f := 15) (args := #[.int .i64 l, valV x]) (by simp [execOp, Act.eval, s26, s27, go_sem]) ?_)
          refine (HFI.out W hB.b).mono ?_
          rintro e w' ⟨rfl, hb'⟩
          exact ⟨_, rfl, rfl, Q7.call hB hb'⟩
        · have hg : A.tmps[25]?.getD undef = .bool false := hA.on 5 25 (by kernel_rfl) (by kernel_rfl)
          have s28 : A.tmps[28]?.getD undef = .bool false := hA.on 8 28 (by kernel_rfl) (by kernel_rfl)
          exact wpOp_want rfl rfl (by kernel_rfl) hg (wp_value (v := .bool false) (W' := W) (by simp [execOp, Act.eval, s28, go_sem]) ⟨rfl, hB⟩)
        · have hg : A.tmps[29]?.getD undef = .bool false := hA.on 9 29 (by kernel_rfl) (by kernel_rfl)
          exact wpOp_pass rfl rfl (by kernel_rfl) _ hg (by simp) ⟨rfl, hB⟩
        · have hg : A.tmps[29]?.getD undef = .bool false := hA.on 9 29 (by kernel_rfl) (by kernel_rfl)
          exact wpOp_pass rfl rfl (by kernel_rfl) _ hg (by simp) ⟨rfl, hB⟩
        · have hg : A.tmps[29]?.getD undef = .bool false := hA.on 9 29 (by kernel_rfl) (by kernel_rfl)
          exact wpOp_pass rfl rfl (by kernel_rfl) _ hg (by simp) ⟨rfl, hB⟩
        · have hg : A.tmps[25]?.getD undef = .bool false := hA.on 5 25 (by kernel_rfl) (by kernel_rfl)
          have s29 : A.tmps[29]?.getD undef = .bool false := hA.on 9 29 (by kernel_rfl) (by kernel_rfl)
          exact wpOp_want rfl rfl (by kernel_rfl) hg (wp_value (v := .bool false) (W' := W) (by simp [execOp, Act.eval, s29, go_sem]) ⟨rfl, hB⟩)
        · have s25 : A.tmps[25]?.getD undef = .bool false := hA.on 5 25 (by kernel_rfl) (by kernel_rfl)
          have s33 : A.tmps[33]?.getD undef = .bool false := hA.on 13 33 (by kernel_rfl) (by kernel_rfl)
          exact wpOp_of rfl rfl (wp_value (v := .bool false) (W' := W) (by simp [execOp, Act.eval, s25, s33, go_sem]) ⟨rfl, hB⟩)
        · have s34 : A.tmps[34]?.getD undef = .bool false := hA.on 14 34 (by kernel_rfl) (by kernel_rfl)
          exact wpOp_of rfl rfl (wp_value (v := .bool false) (W' := W) (by simp [execOp, Act.eval, s34, go_sem]) ⟨rfl, hB⟩)
        · have hg : A.tmps[35]?.getD undef = .bool false := hA.on 15 35 (by kernel_rfl) (by kernel_rfl)
          have s3 : A.tmps[3]?.getD undef = .int .i64 l := (hA.st 3 (by kernel_rfl)).trans rfl
          exact wpOp_want rfl rfl (by kernel_rfl) hg (wp_value (v := .int .i64 l) (W' := W) (by simp [execOp, Act.eval, s3, go_sem]) ⟨rfl, hB⟩)
        · have hg : A.tmps[35]?.getD undef = .bool false := hA.on 15 35 (by kernel_rfl) (by kernel_rfl)
          have s5 : A.tmps[5]?.getD undef = .pointer (some ⟨b2, 0, none⟩) := (hA.st 5 (by kernel_rfl)).trans rfl
          obtain ⟨c0, c1, c2, c3, c4, c5, c6⟩ := cells_open hB.y
          exact wpOp_want rfl rfl (by kernel_rfl) hg (wp_value (v := valV y) (W' := W) (by simp [execOp, Act.eval, s5, go_sem, c0, c1, c2, c3, c4, c5, c6, valV]) ⟨rfl, hB⟩)
        · have hg : A.tmps[35]?.getD undef = .bool false := hA.on 15 35 (by kernel_rfl) (by kernel_rfl)
          have s36 : A.tmps[36]?.getD undef = .int .i64 l := hA.on 16 36 (by kernel_rfl) (by kernel_rfl)
          have s37 : A.tmps[37]?.getD undef = valV y := hA.on 17 37 (by kernel_rfl) (by kernel_rfl)
          refine wpOp_want rfl rfl (by kernel_rfl) hg (wp_enter (f := 23) (args := #[.int .i64 l, valV y]) (by simp [execOp, Act.eval, s36, s37, go_sem]) ?_)
          refine (HKY.out W).mono ?_
          rintro e w' ⟨rfl, hb'⟩
          exact ⟨_, rfl, rfl, Q7.call hB hb'⟩
        · have hg : A.tmps[35]?.getD undef = .bool false := hA.on 15 35 (by kernel_rfl) (by kernel_rfl)
          have s5 : A.tmps[5]?.getD undef = .pointer (some ⟨b2, 0, none⟩) := (hA.st 5 (by kernel_rfl)).trans rfl
          obtain ⟨c0, c1, c2, c3, c4, c5, c6⟩ := cells_open hB.y
          exact wpOp_want rfl rfl (by kernel_rfl) hg (wp_value (v := valV y) (W' := W) (by simp [execOp, Act.eval, s5, go_sem, c0, c1, c2, c3, c4, c5, c6, valV]) ⟨rfl, hB⟩)
        · have hg : A.tmps[35]?.getD undef = .bool false := hA.on 15 35 (by kernel_rfl) (by kernel_rfl)
          have s38 : A.tmps[38]?.getD undef = valV y := hA.on 18 38 (by kernel_rfl) (by kernel_rfl)
          have s39 : A.tmps[39]?.getD undef = valV y := hA.on 19 39 (by kernel_rfl) (by kernel_rfl)
          exact wpOp_want rfl rfl (by kernel_rfl) hg (wp_value (v := .bool false) (W' := W) (by simp [execOp, Act.eval, s38, s39, go_sem, guardV, neqV, same_self]) ⟨rfl, hB⟩)
        · have s35 : A.tmps[35]?.getD undef = .bool false := hA.on 15 35 (by kernel_rfl) (by kernel_rfl)
          have s40 : A.tmps[40]?.getD undef = .bool false := hA.on 20 40 (by kernel_rfl) (by kernel_rfl)
          exact wpOp_of rfl rfl (wp_value (v := .bool false) (W' := W) (by simp [execOp, Act.eval, s35, s40, go_sem]) ⟨rfl, hB⟩)
      intro wR hR
      simp only [RI.mergeL, List.getElem?_cons_zero, List.getElem?_cons_succ, Option.getD_some]
      clear HKS HKY HFI hQ
      by_cases hlook : isLook l = true
      · obtain ⟨hl0, hl1⟩ := P8.look_iff.1 hlook
        have hn0 : ¬ l < 0 := by omega
        have hn5 : ¬ 5 < l := by omega
        clear hl0 hl1 hlook
        go_wp2_with fail
        refine (D8.Fits_draw _ A0 len0 cap0 (HBY.out _ hR.b)).mono ?_
        rintro e w3 ⟨l2, a, rfl, hl2, hal, g3⟩
        have g4 := hR.b.trans (g3.mono hR.b.size)
        have hQ := Q1.new g4 (cellsV a) 29
        clear g3 g4 hR
        obtain ⟨b, eb⟩ : ∃ b, atFirst l2 = b := ⟨_, rfl⟩
        have hbl : b.w.length ≤ 100 := eb ▸ P8.first_len l2
        unfold valV
        go_wp2_with fail
        refine (eb ▸ AtFirst_spec l2 _).mono ?_
        rintro e w5 ⟨rfl, g5⟩
        replace hQ := Q1.two (Q1.call hQ g5) (cellsV b) 29
        obtain ⟨b3, e3⟩ : ∃ b3, w3.heap.size = b3 := ⟨_, rfl⟩
        obtain ⟨b4, e4⟩ : ∃ b4, w5.heap.size = b4 := ⟨_, rfl⟩
        rw [e3, e4] at hQ
        rw [e3]
        clear g5 e3
        have HFS := Lib.hid (fun w' => Fits_spec l2 a (by omega) w')
        obtain ⟨F2, eF2⟩ : ∃ F, fits l2 a = F := ⟨_, rfl⟩
        rw [eF2] at HFS
        unfold valV at HFS ⊢
        obtain ⟨q0, q1, q2, q3, q4, q5, q6⟩ := cells_open hQ.x
        unfold cellsV at q0 q1 q2 q3 q4 q5 q6
        cases F2
        · go_wp2_with (first | (go_at_call 16; refine (HFS.out _).mono ?_; rintro e w' ⟨rfl, hb'⟩; replace hQ := Q7.call hQ hb'))
          go_ret
          exact ⟨rfl, hQ.b⟩
        · have hlk := P8.fits_look eF2
          have hfb : fits l2 b = true := eb ▸ P8.first_fits hlk
          go_wp2_with (first | (go_at_call 16; refine (HFS.out _).mono ?_; rintro e w' ⟨rfl, hb'⟩; replace hQ := Q7.call hQ hb'; clear q0 q1 q2 q3 q4 q5 q6 hb') | fail)
          refine (D2.Pick_laws _ _ A0 len0 cap0 1 327681 (HBY.out _ hQ.b) (by omega) (by omega) (by omega) (by omega)).mono ?_
          rintro e w' ⟨rr, hr0, hr1, rfl, rfl⟩
          obtain ⟨p, ep⟩ : ∃ p, rr - 131072 = p := ⟨_, rfl⟩
          have hwp : IntKind.i64.wrap (rr - 131072) = p := by rw [IntKind.wrap_i64]; omega
          have hp0 : -131072 ≤ p := by omega
          have hp1 : p ≤ 196608 := by omega
          obtain ⟨m1, em1⟩ : ∃ m, P7.mixed a b p = m := ⟨_, rfl⟩
          obtain ⟨m2, em2⟩ : ∃ m, P7.mixed b a p = m := ⟨_, rfl⟩
          obtain ⟨k1, ek1⟩ : ∃ m, kept l2 m1 = m := ⟨_, rfl⟩
          obtain ⟨k2, ek2⟩ : ∃ m, kept l2 m2 = m := ⟨_, rfl⟩
          have hm1l : m1.w.length ≤ 100 := em1 ▸ mixed_len p hal hbl
          have hm2l : m2.w.length ≤ 100 := em2 ▸ mixed_len p hbl hal
          have hk1l : k1.w.length ≤ 100 := ek1 ▸ kept_len l2 hm1l
          have hk2l : k2.w.length ≤ 100 := ek2 ▸ kept_len l2 hm2l
          have hf1 : fits l2 k1 = true := by rw [← ek1, ← em1]; exact P8.mixed_fits eF2 hfb hp0 hp1
          have hf2 : fits l2 k2 = true := by rw [← ek2, ← em2]; exact P8.mixed_fits hfb eF2 hp0 hp1
          have HM1 := Lib.hid (fun w' => em1 ▸ Mixed_spec a b p (by omega) (by omega) w')
          have HM2 := Lib.hid (fun w' => em2 ▸ Mixed_spec b a p (by omega) (by omega) w')
          have HK1 := Lib.hid (fun w' => ek1 ▸ Kept_impl l2 m1 (HR l2 hl2) w' (by omega))
          have HK2 := Lib.hid (fun w' => ek2 ▸ Kept_impl l2 m2 (HR l2 hl2) w' (by omega))
          have HF1 := Lib.hid (fun w' (hq : Below w.heap.size w w') => hf1 ▸ Fits_impl l2 k1 (HR l2 hl2) (by omega) w' (HP.out.on hq))
          have HF2 := Lib.hid (fun w' (hq : Below w.heap.size w w') => hf2 ▸ Fits_impl l2 k2 (HR l2 hl2) (by omega) w' (HP.out.on hq))
          clear hf1 hf2 em1 em2 ek1 ek2 ep
          go_upto_region 14 with (fail)
          refine RI.region_det1 [.int .i64 l2, .int .i64 l2, valV a, valV b, .int .i64 p, valV m1, valV k1, .bool true, .bool true, .int .i64 l2, .int .i64 l2, valV b, valV a, .int .i64 p, valV m2, valV k2, .bool true, .bool true, .bool true] (fun W => Q7 w W b3 b4 (cellsV a) (cellsV b)) (none :: none :: some 18 :: none :: none :: none :: none :: none :: none :: none :: none :: none :: none :: none :: none :: none :: none :: none :: none :: none :: none :: none :: none :: none :: none :: none :: none :: none :: none :: none :: none :: none :: none :: none :: none :: none :: none :: none :: none :: none :: none :: none :: none :: none :: none :: none :: none :: none :: none :: none :: none :: none :: none :: none :: none :: none :: none :: none :: none :: none :: none :: none :: none :: none :: none :: some 0 :: some 1 :: some 2 :: some 3 :: some 4 :: some 5 :: some 6 :: some 7 :: some 8 :: some 9 :: some 10 :: some 11 :: some 12 :: some 13 :: some 14 :: some 15 :: some 16 :: some 17 :: []) (by kernel_rfl) (by kernel_rfl) (hQ) ?_ ?_
          · intro i hi A W hB hA
            have hi2 : i < 19 := hi
            have hcase : i = 0 ∨ i = 1 ∨ i = 2 ∨ i = 3 ∨ i = 4 ∨ i = 5 ∨ i = 6 ∨ i = 7 ∨ i = 8 ∨ i = 9 ∨ i = 10 ∨ i = 11 ∨ i = 12 ∨ i = 13 ∨ i = 14 ∨ i = 15 ∨ i = 16 ∨ i = 17 ∨ i = 18 := by omega
            clear hi hi2
            rcases hcase with rfl | rfl | rfl | rfl | rfl | rfl | rfl | rfl | rfl | rfl | rfl | rfl | rfl | rfl | rfl | rfl | rfl | rfl | rfl
            · have s6 : A.tmps[6]?.getD undef = .int .i64 l2 := (hA.st 6 (by kernel_rfl)).trans rfl
              exact wpOp_of rfl rfl (wp_value (v := .int .i64 l2) (W' := W) (by simp [execOp, Act.eval, s6, go_sem]) ⟨rfl, hB⟩)
            · have s6 : A.tmps[6]?.getD undef = .int .i64 l2 := (hA.st 6 (by kernel_rfl)).trans rfl
              exact wpOp_of rfl rfl (wp_value (v := .int .i64 l2) (W' := W) (by simp [execOp, Act.eval, s6, go_sem]) ⟨rfl, hB⟩)
            · have s7 : A.tmps[7]?.getD undef = .pointer (some ⟨b3, 0, none⟩) := (hA.st 7 (by kernel_rfl)).trans rfl
              obtain ⟨c0, c1, c2, c3, c4, c5, c6⟩ := cells_open hB.x
              exact wpOp_of rfl rfl (wp_value (v := valV a) (W' := W) (by simp [execOp, Act.eval, s7, go_sem, c0, c1, c2, c3, c4, c5, c6, valV]) ⟨rfl, hB⟩)
            · have s8 : A.tmps[8]?.getD undef = .pointer (some ⟨b4, 0, none⟩) := (hA.st 8 (by kernel_rfl)).trans rfl
              obtain ⟨c0, c1, c2, c3, c4, c5, c6⟩ := cells_open hB.y
              exact wpOp_of rfl rfl (wp_value (v := valV b) (W' := W) (by simp [execOp, Act.eval, s8, go_sem, c0, c1, c2, c3, c4, c5, c6, valV]) ⟨rfl, hB⟩)
            · have s9 : A.tmps[9]?.getD undef = .int .i64 p := (hA.st 9 (by kernel_rfl)).trans rfl
              exact wpOp_of rfl rfl (wp_value (v := .int .i64 p) (W' := W) (by simp [execOp, Act.eval, s9, go_sem]) ⟨rfl, hB⟩)
            · have s67 : A.tmps[67]?.getD undef = valV a := hA.on 2 67 (by kernel_rfl) (by kernel_rfl)
              have s68 : A.tmps[68]?.getD undef = valV b := hA.on 3 68 (by kernel_rfl) (by kernel_rfl)
              have s69 : A.tmps[69]?.getD undef = .int .i64 p := hA.on 4 69 (by kernel_rfl) (by kernel_rfl)
              refine wpOp_of rfl rfl (wp_enter (f := 26) (args := #[valV a, valV b, .int .i64 p]) (by simp [execOp, Act.eval, s67, s68, s69, go_sem]) ?_)
              refine (HM1.out W).mono ?_
              rintro e w' ⟨rfl, hb'⟩
              exact ⟨_, rfl, rfl, Q7.call hB hb'⟩
            · have s66 : A.tmps[66]?.getD undef = .int .i64 l2 := hA.on 1 66 (by kernel_rfl) (by kernel_rfl)
              have s70 : A.tmps[70]?.getD undef = valV m1 := hA.on 5 70 (by kernel_rfl) (by kernel_rfl)
              refine wpOp_of rfl rfl (wp_enter (f := 23) (args := #[.int .i64 l2, valV m1]) (by simp [execOp, Act.eval, s66, s70, go_sem]) ?_)
              refine (HK1.out W).mono ?_
              rintro e w' ⟨rfl, hb'⟩
              exact ⟨_, rfl, rfl, Q7.call hB hb'⟩
            · have s65 : A.tmps[65]?.getD undef = .int .i64 l2 := hA.on 0 65 (by kernel_rfl) (by kernel_rfl)
              have s71 : A.tmps[71]?.getD undef = valV k1 := hA.on 6 71 (by kernel_rfl) (by kernel_rfl)
              refine wpOp_of rfl rfl (wp_enter (f := 15) (args := #[.int .i64 l2, valV k1]) (by simp [execOp, Act.eval, s65, s71, go_sem]) ?_)
              refine (HF1.out W hB.b).mono ?_
              rintro e w' ⟨rfl, hb'⟩
              exact ⟨_, rfl, rfl, Q7.call hB hb'⟩
            · have s72 : A.tmps[72]?.getD undef = .bool true := hA.on 7 72 (by kernel_rfl) (by kernel_rfl)
              exact wpOp_of rfl rfl (wp_value (v := .bool true) (W' := W) (by simp [execOp, Act.eval, s72, go_sem]) ⟨rfl, hB⟩)
            · have hg : A.tmps[73]?.getD undef = .bool true := hA.on 8 73 (by kernel_rfl) (by kernel_rfl)
              have s6 : A.tmps[6]?.getD undef = .int .i64 l2 := (hA.st 6 (by kernel_rfl)).trans rfl
              exact wpOp_want rfl rfl (by kernel_rfl) hg (wp_value (v := .int .i64 l2) (W' := W) (by simp [execOp, Act.eval, s6, go_sem]) ⟨rfl, hB⟩)
            · have hg : A.tmps[73]?.getD undef = .bool true := hA.on 8 73 (by kernel_rfl) (by kernel_rfl)
              have s6 : A.tmps[6]?.getD undef = .int .i64 l2 := (hA.st 6 (by kernel_rfl)).trans rfl
              exact wpOp_want rfl rfl (by kernel_rfl) hg (wp_value (v := .int .i64 l2) (W' := W) (by simp [execOp, Act.eval, s6, go_sem]) ⟨rfl, hB⟩)
            · have hg : A.tmps[73]?.getD undef = .bool true := hA.on 8 73 (by kernel_rfl) (by kernel_rfl)
              have s8 : A.tmps[8]?.getD undef = .pointer (some ⟨b4, 0, none⟩) := (hA.st 8 (by kernel_rfl)).trans rfl
              obtain ⟨c0, c1, c2, c3, c4, c5, c6⟩ := cells_open hB.y
              exact wpOp_want rfl rfl (by kernel_rfl) hg (wp_value (v := valV b) (W' := W) (by simp [execOp, Act.eval, s8, go_sem, c0, c1, c2, c3, c4, c5, c6, valV]) ⟨rfl, hB⟩)
            · have hg : A.tmps[73]?.getD undef = .bool true := hA.on 8 73 (by kernel_rfl) (by kernel_rfl)
              have s7 : A.tmps[7]?.getD undef = .pointer (some ⟨b3, 0, none⟩) := (hA.st 7 (by kernel_rfl)).trans rfl
              obtain ⟨c0, c1, c2, c3, c4, c5, c6⟩ := cells_open hB.x
              exact wpOp_want rfl rfl (by kernel_rfl) hg (wp_value (v := valV a) (W' := W) (by simp [execOp, Act.eval, s7, go_sem, c0, c1, c2, c3, c4, c5, c6, valV]) ⟨rfl, hB⟩)
            · have hg : A.tmps[73]?.getD undef = .bool true := hA.on 8 73 (by kernel_rfl) (by kernel_rfl)
              have s9 : A.tmps[9]?.getD undef = .int .i64 p := (hA.st 9 (by kernel_rfl)).trans rfl
              exact wpOp_want rfl rfl (by kernel_rfl) hg (wp_value (v := .int .i64 p) (W' := W) (by simp [execOp, Act.eval, s9, go_sem]) ⟨rfl, hB⟩)
            · have hg : A.tmps[73]?.getD undef = .bool true := hA.on 8 73 (by kernel_rfl) (by kernel_rfl)
              have s76 : A.tmps[76]?.getD undef = valV b := hA.on 11 76 (by kernel_rfl) (by kernel_rfl)
              have s77 : A.tmps[77]?.getD undef = valV a := hA.on 12 77 (by kernel_rfl) (by kernel_rfl)
              have s78 : A.tmps[78]?.getD undef = .int .i64 p := hA.on 13 78 (by kernel_rfl) (by kernel_rfl)
              refine wpOp_want rfl rfl (by kernel_rfl) hg (wp_enter (f := 26) (args := #[valV b, valV a, .int .i64 p]) (by simp [execOp, Act.eval, s76, s77, s78, go_sem]) ?_)
              refine (HM2.out W).mono ?_
              rintro e w' ⟨rfl, hb'⟩
              exact ⟨_, rfl, rfl, Q7.call hB hb'⟩
            · have hg : A.tmps[73]?.getD undef = .bool true := hA.on 8 73 (by kernel_rfl) (by kernel_rfl)
              have s75 : A.tmps[75]?.getD undef = .int .i64 l2 := hA.on 10 75 (by kernel_rfl) (by kernel_rfl)
              have s79 : A.tmps[79]?.getD undef = valV m2 := hA.on 14 79 (by kernel_rfl) (by kernel_rfl)
              refine wpOp_want rfl rfl (by kernel_rfl) hg (wp_enter (f := 23) (args := #[.int .i64 l2, valV m2]) (by simp [execOp, Act.eval, s75, s79, go_sem]) ?_)
              refine (HK2.out W).mono ?_
              rintro e w' ⟨rfl, hb'⟩
              exact ⟨_, rfl, rfl, Q7.call hB hb'⟩
            · have hg : A.tmps[73]?.getD undef = .bool true := hA.on 8 73 (by kernel_rfl) (by kernel_rfl)
              have s74 : A.tmps[74]?.getD undef = .int .i64 l2 := hA.on 9 74 (by kernel_rfl) (by kernel_rfl)
              have s80 : A.tmps[80]?.getD undef = valV k2 := hA.on 15 80 (by kernel_rfl) (by kernel_rfl)
              refine wpOp_want rfl rfl (by kernel_rfl) hg (wp_enter (f := 15) (args := #[.int .i64 l2, valV k2]) (by simp [execOp, Act.eval, s74, s80, go_sem]) ?_)
              refine (HF2.out W hB.b).mono ?_
              rintro e w' ⟨rfl, hb'⟩
              exact ⟨_, rfl, rfl, Q7.call hB hb'⟩
            · have s73 : A.tmps[73]?.getD undef = .bool true := hA.on 8 73 (by kernel_rfl) (by kernel_rfl)
              have s81 : A.tmps[81]?.getD undef = .bool true := hA.on 16 81 (by kernel_rfl) (by kernel_rfl)
              exact wpOp_of rfl rfl (wp_value (v := .bool true) (W' := W) (by simp [execOp, Act.eval, s73, s81, go_sem]) ⟨rfl, hB⟩)
            · have s82 : A.tmps[82]?.getD undef = .bool true := hA.on 17 82 (by kernel_rfl) (by kernel_rfl)
              exact wpOp_of rfl rfl (wp_value (v := .bool true) (W' := W) (by simp [execOp, Act.eval, s82, go_sem]) ⟨rfl, hB⟩)
          intro wT hT
          simp only [RI.mergeL, List.getElem?_cons_zero, List.getElem?_cons_succ, Option.getD_some]
          go_wp2_with fail
          go_ret
          exact ⟨rfl, hT.b⟩
      · have hno : ¬ (0 ≤ l ∧ l ≤ 5) := fun h0 => hlook (P8.look_iff.2 h0)
        have hz : y = Va.zero := by
          rw [← ey]
          unfold kept
          rw [if_neg hlook]
        have heq0 : ∀ w', (Op.equalIn 10000 29 (.agg #[.int .i64 y.k, .int .i64 y.n, .int .i64 y.r, .int .i64 y.g, .int .i64 y.b, .int .i64 y.c, .string ⟨y.w.toArray⟩]) (.agg #[.int .i64 0, .int .i64 0, .int .i64 0, .int .i64 0, .int .i64 0, .int .i64 0, .string ⟨#[]⟩])).run Tryz.prog w' = .ok true w' := fun w' => by
          have h := eqV y Va.zero w'
          rw [show Va.same y Va.zero = true by rw [hz]; exact same_self _] at h
          exact h
        obtain ⟨q0, q1, q2, q3, q4, q5, q6⟩ := cells_open hR.y
        clear hlook hz
        by_cases hlt : l < 0
        · clear hno
          go_wp2_with fail
          go_ret
          exact ⟨rfl, hR.b⟩
        · have hgt : 5 < l := by omega
          clear hno
          go_wp2_with fail
          go_ret
          exact ⟨rfl, hR.b⟩
    · have hyx : Va.same y x = true := Va.same_iff.2 (by rw [← ey]; exact P8.kept_fits eF)
      clear eF
      refine RI.region_det (by kernel_rfl) [valV y, .int .i64 l, valV x, valV y, .bool false, .bool false, .int .i64 l, valV x, .bool true, .bool true, valV y, valV x, .bool false, .bool false, .bool false, .bool false, .int .i64 l, valV y, valV y, valV y, .bool false, .bool false] (fun W => Q7 w W b1 b2 (cellsV x) (cellsV y)) (none :: none :: none :: none :: none :: none :: none :: none :: none :: none :: none :: none :: none :: none :: none :: none :: none :: none :: none :: none :: some 0 :: some 1 :: some 2 :: some 3 :: some 4 :: some 5 :: some 6 :: some 7 :: some 8 :: some 9 :: some 10 :: some 11 :: some 12 :: some 13 :: some 14 :: some 15 :: some 16 :: some 17 :: some 18 :: some 19 :: some 20 :: some 21 :: none :: none :: none :: none :: none :: none :: none :: none :: none :: none :: none :: none :: none :: none :: none :: none :: none :: none :: none :: none :: none :: none :: none :: none :: none :: none :: none :: none :: none :: none :: none :: none :: none :: none :: none :: none :: none :: none :: none :: none :: none :: []) (by kernel_rfl) (by kernel_rfl) (Q7.drew hQ) ?_ ?_
      · intro i hi A W hB hA
        have hi2 : i < 22 := hi
        have hcase : i = 0 ∨ i = 1 ∨ i = 2 ∨ i = 3 ∨ i = 4 ∨ i = 5 ∨ i = 6 ∨ i = 7 ∨ i = 8 ∨ i = 9 ∨ i = 10 ∨ i = 11 ∨ i = 12 ∨ i = 13 ∨ i = 14 ∨ i = 15 ∨ i = 16 ∨ i = 17 ∨ i = 18 ∨ i = 19 ∨ i = 20 ∨ i = 21 := by omega
        clear hi hi2
        rcases hcase with rfl | rfl | rfl | rfl | rfl | rfl | rfl | rfl | rfl | rfl | rfl | rfl | rfl | rfl | rfl | rfl | rfl | rfl | rfl | rfl | rfl | rfl
        · have s5 : A.tmps[5]?.getD undef = .pointer (some ⟨b2, 0, none⟩) := (hA.st 5 (by kernel_rfl)).trans rfl
          obtain ⟨c0, c1, c2, c3, c4, c5, c6⟩ := cells_open hB.y
          exact wpOp_of rfl rfl (wp_value (v := valV y) (W' := W) (by simp [execOp, Act.eval, s5, go_sem, c0, c1, c2, c3, c4, c5, c6, valV]) ⟨rfl, hB⟩)
        · have s3 : A.tmps[3]?.getD undef = .int .i64 l := (hA.st 3 (by kernel_rfl)).trans rfl
          exact wpOp_of rfl rfl (wp_value (v := .int .i64 l) (W' := W) (by simp [execOp, Act.eval, s3, go_sem]) ⟨rfl, hB⟩)
        · have s4 : A.tmps[4]?.getD undef = .pointer (some ⟨b1, 0, none⟩) := (hA.st 4 (by kernel_rfl)).trans rfl
          obtain ⟨c0, c1, c2, c3, c4, c5, c6⟩ := cells_open hB.x
          exact wpOp_of rfl rfl (wp_value (v := valV x) (W' := W) (by simp [execOp, Act.eval, s4, go_sem, c0, c1, c2, c3, c4, c5, c6, valV]) ⟨rfl, hB⟩)
        · have s21 : A.tmps[21]?.getD undef = .int .i64 l := hA.on 1 21 (by kernel_rfl) (by kernel_rfl)
          have s22 : A.tmps[22]?.getD undef = valV x := hA.on 2 22 (by kernel_rfl) (by kernel_rfl)
          refine wpOp_of rfl rfl (wp_enter (f := 24) (args := #[.int .i64 l, valV x]) (by simp [execOp, Act.eval, s21, s22, go_sem]) ?_)
          refine (HKS.out W).mono ?_
          rintro e w' ⟨rfl, hb'⟩
          exact ⟨_, rfl, rfl, Q7.call hB hb'⟩
        · have s20 : A.tmps[20]?.getD undef = valV y := hA.on 0 20 (by kernel_rfl) (by kernel_rfl)
          have s23 : A.tmps[23]?.getD undef = valV y := hA.on 3 23 (by kernel_rfl) (by kernel_rfl)
          exact wpOp_of rfl rfl (wp_value (v := .bool false) (W' := W) (by simp [execOp, Act.eval, s20, s23, go_sem, guardV, neqV, same_self]) ⟨rfl, hB⟩)
        · have s24 : A.tmps[24]?.getD undef = .bool false := hA.on 4 24 (by kernel_rfl) (by kernel_rfl)
          exact wpOp_of rfl rfl (wp_value (v := .bool false) (W' := W) (by simp [execOp, Act.eval, s24, go_sem]) ⟨rfl, hB⟩)
        · have hg : A.tmps[25]?.getD undef = .bool false := hA.on 5 25 (by kernel_rfl) (by kernel_rfl)
          have s3 : A.tmps[3]?.getD undef = .int .i64 l := (hA.st 3 (by kernel_rfl)).trans rfl
          exact wpOp_want rfl rfl (by kernel_rfl) hg (wp_value (v := .int .i64 l) (W' := W) (by simp [execOp, Act.eval, s3, go_sem]) ⟨rfl, hB⟩)
        · have hg : A.tmps[25]?.getD undef = .bool false := hA.on 5 25 (by kernel_rfl) (by kernel_rfl)
          have s4 : A.tmps[4]?.getD undef = .pointer (some ⟨b1, 0, none⟩) := (hA.st 4 (by kernel_rfl)).trans rfl
          obtain ⟨c0, c1, c2, c3, c4, c5, c6⟩ := cells_open hB.x
          exact wpOp_want rfl rfl (by kernel_rfl) hg (wp_value (v := valV x) (W' := W) (by simp [execOp, Act.eval, s4, go_sem, c0, c1, c2, c3, c4, c5, c6, valV]) ⟨rfl, hB⟩)
        · have hg : A.tmps[25]?.getD undef = .bool false := hA.on 5 25 (by kernel_rfl) (by kernel_rfl)
          have s26 : A.tmps[26]?.getD undef = .int .i64 l := hA.on 6 26 (by kernel_rfl) (by kernel_rfl)
          have s27 : A.tmps[27]?.getD undef = valV x := hA.on 7 27 (by kernel_rfl) (by kernel_rfl)
          refine wpOp_want rfl rfl (by kernel_rfl) hg (wp_enter (f := 15) (args := #[.int .i64 l, valV x]) (by simp [execOp, Act.eval, s26, s27, go_sem]) ?_)
          refine (HFI.out W hB.b).mono ?_
          rintro e w' ⟨rfl, hb'⟩
          exact ⟨_, rfl, rfl, Q7.call hB hb'⟩
        · have hg : A.tmps[25]?.getD undef = .bool false := hA.on 5 25 (by kernel_rfl) (by kernel_rfl)
          have s28 : A.tmps[28]?.getD undef = .bool true := hA.on 8 28 (by kernel_rfl) (by kernel_rfl)
          exact wpOp_want rfl rfl (by kernel_rfl) hg (wp_value (v := .bool true) (W' := W) (by simp [execOp, Act.eval, s28, go_sem]) ⟨rfl, hB⟩)
        · have hg : A.tmps[29]?.getD undef = .bool true := hA.on 9 29 (by kernel_rfl) (by kernel_rfl)
          have s5 : A.tmps[5]?.getD undef = .pointer (some ⟨b2, 0, none⟩) := (hA.st 5 (by kernel_rfl)).trans rfl
          obtain ⟨c0, c1, c2, c3, c4, c5, c6⟩ := cells_open hB.y
          exact wpOp_want rfl rfl (by kernel_rfl) hg (wp_value (v := valV y) (W' := W) (by simp [execOp, Act.eval, s5, go_sem, c0, c1, c2, c3, c4, c5, c6, valV]) ⟨rfl, hB⟩)
        · have hg : A.tmps[29]?.getD undef = .bool true := hA.on 9 29 (by kernel_rfl) (by kernel_rfl)
          have s4 : A.tmps[4]?.getD undef = .pointer (some ⟨b1, 0, none⟩) := (hA.st 4 (by kernel_rfl)).trans rfl
          obtain ⟨c0, c1, c2, c3, c4, c5, c6⟩ := cells_open hB.x
          exact wpOp_want rfl rfl (by kernel_rfl) hg (wp_value (v := valV x) (W' := W) (by simp [execOp, Act.eval, s4, go_sem, c0, c1, c2, c3, c4, c5, c6, valV]) ⟨rfl, hB⟩)
        · have hg : A.tmps[29]?.getD undef = .bool true := hA.on 9 29 (by kernel_rfl) (by kernel_rfl)
          have s30 : A.tmps[30]?.getD undef = valV y := hA.on 10 30 (by kernel_rfl) (by kernel_rfl)
          have s31 : A.tmps[31]?.getD undef = valV x := hA.on 11 31 (by kernel_rfl) (by kernel_rfl)
          exact wpOp_want rfl rfl (by kernel_rfl) hg (wp_value (v := .bool false) (W' := W) (by simp [execOp, Act.eval, s30, s31, go_sem, guardV, neqV, hyx]) ⟨rfl, hB⟩)
        · have hg : A.tmps[25]?.getD undef = .bool false := hA.on 5 25 (by kernel_rfl) (by kernel_rfl)
          have s29 : A.tmps[29]?.getD undef = .bool true := hA.on 9 29 (by kernel_rfl) (by kernel_rfl)
          have s32 : A.tmps[32]?.getD undef = .bool false := hA.on 12 32 (by kernel_rfl) (by kernel_rfl)
          exact wpOp_want rfl rfl (by kernel_rfl) hg (wp_value (v := .bool false) (W' := W) (by simp [execOp, Act.eval, s29, s32, go_sem]) ⟨rfl, hB⟩)
        · have s25 : A.tmps[25]?.getD undef = .bool false := hA.on 5 25 (by kernel_rfl) (by kernel_rfl)
          have s33 : A.tmps[33]?.getD undef = .bool false := hA.on 13 33 (by kernel_rfl) (by kernel_rfl)
          exact wpOp_of rfl rfl (wp_value (v := .bool false) (W' := W) (by simp [execOp, Act.eval, s25, s33, go_sem]) ⟨rfl, hB⟩)
        · have s34 : A.tmps[34]?.getD undef = .bool false := hA.on 14 34 (by kernel_rfl) (by kernel_rfl)
          exact wpOp_of rfl rfl (wp_value (v := .bool false) (W' := W) (by simp [execOp, Act.eval, s34, go_sem]) ⟨rfl, hB⟩)
        · have hg : A.tmps[35]?.getD undef = .bool false := hA.on 15 35 (by kernel_rfl) (by kernel_rfl)
          have s3 : A.tmps[3]?.getD undef = .int .i64 l := (hA.st 3 (by kernel_rfl)).trans rfl
          exact wpOp_want rfl rfl (by kernel_rfl) hg (wp_value (v := .int .i64 l) (W' := W) (by simp [execOp, Act.eval, s3, go_sem]) ⟨rfl, hB⟩)
        · have hg : A.tmps[35]?.getD undef = .bool false := hA.on 15 35 (by kernel_rfl) (by kernel_rfl)
          have s5 : A.tmps[5]?.getD undef = .pointer (some ⟨b2, 0, none⟩) := (hA.st 5 (by kernel_rfl)).trans rfl
          obtain ⟨c0, c1, c2, c3, c4, c5, c6⟩ := cells_open hB.y
          exact wpOp_want rfl rfl (by kernel_rfl) hg (wp_value (v := valV y) (W' := W) (by simp [execOp, Act.eval, s5, go_sem, c0, c1, c2, c3, c4, c5, c6, valV]) ⟨rfl, hB⟩)
        · have hg : A.tmps[35]?.getD undef = .bool false := hA.on 15 35 (by kernel_rfl) (by kernel_rfl)
          have s36 : A.tmps[36]?.getD undef = .int .i64 l := hA.on 16 36 (by kernel_rfl) (by kernel_rfl)
          have s37 : A.tmps[37]?.getD undef = valV y := hA.on 17 37 (by kernel_rfl) (by kernel_rfl)
          refine wpOp_want rfl rfl (by kernel_rfl) hg (wp_enter (f := 23) (args := #[.int .i64 l, valV y]) (by simp [execOp, Act.eval, s36, s37, go_sem]) ?_)
          refine (HKY.out W).mono ?_
          rintro e w' ⟨rfl, hb'⟩
          exact ⟨_, rfl, rfl, Q7.call hB hb'⟩
        · have hg : A.tmps[35]?.getD undef = .bool false := hA.on 15 35 (by kernel_rfl) (by kernel_rfl)
          have s5 : A.tmps[5]?.getD undef = .pointer (some ⟨b2, 0, none⟩) := (hA.st 5 (by kernel_rfl)).trans rfl
          obtain ⟨c0, c1, c2, c3, c4, c5, c6⟩ := cells_open hB.y
          exact wpOp_want rfl rfl (by kernel_rfl) hg (wp_value (v := valV y) (W' := W) (by simp [execOp, Act.eval, s5, go_sem, c0, c1, c2, c3, c4, c5, c6, valV]) ⟨rfl, hB⟩)
        · have hg : A.tmps[35]?.getD undef = .bool false := hA.on 15 35 (by kernel_rfl) (by kernel_rfl)
          have s38 : A.tmps[38]?.getD undef = valV y := hA.on 18 38 (by kernel_rfl) (by kernel_rfl)
          have s39 : A.tmps[39]?.getD undef = valV y := hA.on 19 39 (by kernel_rfl) (by kernel_rfl)
          exact wpOp_want rfl rfl (by kernel_rfl) hg (wp_value (v := .bool false) (W' := W) (by simp [execOp, Act.eval, s38, s39, go_sem, guardV, neqV, same_self]) ⟨rfl, hB⟩)
        · have s35 : A.tmps[35]?.getD undef = .bool false := hA.on 15 35 (by kernel_rfl) (by kernel_rfl)
          have s40 : A.tmps[40]?.getD undef = .bool false := hA.on 20 40 (by kernel_rfl) (by kernel_rfl)
          exact wpOp_of rfl rfl (wp_value (v := .bool false) (W' := W) (by simp [execOp, Act.eval, s35, s40, go_sem]) ⟨rfl, hB⟩)
      intro wR hR
      simp only [RI.mergeL, List.getElem?_cons_zero, List.getElem?_cons_succ, Option.getD_some]
      clear HKS HKY HFI hQ hyx
      by_cases hlook : isLook l = true
      · obtain ⟨hl0, hl1⟩ := P8.look_iff.1 hlook
        have hn0 : ¬ l < 0 := by omega
        have hn5 : ¬ 5 < l := by omega
        clear hl0 hl1 hlook
        go_wp2_with fail
        refine (D8.Fits_draw _ A0 len0 cap0 (HBY.out _ hR.b)).mono ?_
        rintro e w3 ⟨l2, a, rfl, hl2, hal, g3⟩
        have g4 := hR.b.trans (g3.mono hR.b.size)
        have hQ := Q1.new g4 (cellsV a) 29
        clear g3 g4 hR
        obtain ⟨b, eb⟩ : ∃ b, atFirst l2 = b := ⟨_, rfl⟩
        have hbl : b.w.length ≤ 100 := eb ▸ P8.first_len l2
        unfold valV
        go_wp2_with fail
        refine (eb ▸ AtFirst_spec l2 _).mono ?_
        rintro e w5 ⟨rfl, g5⟩
        replace hQ := Q1.two (Q1.call hQ g5) (cellsV b) 29
        obtain ⟨b3, e3⟩ : ∃ b3, w3.heap.size = b3 := ⟨_, rfl⟩
        obtain ⟨b4, e4⟩ : ∃ b4, w5.heap.size = b4 := ⟨_, rfl⟩
        rw [e3, e4] at hQ
        rw [e3]
        clear g5 e3
        have HFS := Lib.hid (fun w' => Fits_spec l2 a (by omega) w')
        obtain ⟨F2, eF2⟩ : ∃ F, fits l2 a = F := ⟨_, rfl⟩
        rw [eF2] at HFS
        unfold valV at HFS ⊢
        obtain ⟨q0, q1, q2, q3, q4, q5, q6⟩ := cells_open hQ.x
        unfold cellsV at q0 q1 q2 q3 q4 q5 q6
        cases F2
        · go_wp2_with (first | (go_at_call 16; refine (HFS.out _).mono ?_; rintro e w' ⟨rfl, hb'⟩; replace hQ := Q7.call hQ hb'))
          go_ret
          exact ⟨rfl, hQ.b⟩
        · have hlk := P8.fits_look eF2
          have hfb : fits l2 b = true := eb ▸ P8.first_fits hlk
          go_wp2_with (first | (go_at_call 16; refine (HFS.out _).mono ?_; rintro e w' ⟨rfl, hb'⟩; replace hQ := Q7.call hQ hb'; clear q0 q1 q2 q3 q4 q5 q6 hb') | fail)
          refine (D2.Pick_laws _ _ A0 len0 cap0 1 327681 (HBY.out _ hQ.b) (by omega) (by omega) (by omega) (by omega)).mono ?_
          rintro e w' ⟨rr, hr0, hr1, rfl, rfl⟩
          obtain ⟨p, ep⟩ : ∃ p, rr - 131072 = p := ⟨_, rfl⟩
          have hwp : IntKind.i64.wrap (rr - 131072) = p := by rw [IntKind.wrap_i64]; omega
          have hp0 : -131072 ≤ p := by omega
          have hp1 : p ≤ 196608 := by omega
          obtain ⟨m1, em1⟩ : ∃ m, P7.mixed a b p = m := ⟨_, rfl⟩
          obtain ⟨m2, em2⟩ : ∃ m, P7.mixed b a p = m := ⟨_, rfl⟩
          obtain ⟨k1, ek1⟩ : ∃ m, kept l2 m1 = m := ⟨_, rfl⟩
          obtain ⟨k2, ek2⟩ : ∃ m, kept l2 m2 = m := ⟨_, rfl⟩
          have hm1l : m1.w.length ≤ 100 := em1 ▸ mixed_len p hal hbl
          have hm2l : m2.w.length ≤ 100 := em2 ▸ mixed_len p hbl hal
          have hk1l : k1.w.length ≤ 100 := ek1 ▸ kept_len l2 hm1l
          have hk2l : k2.w.length ≤ 100 := ek2 ▸ kept_len l2 hm2l
          have hf1 : fits l2 k1 = true := by rw [← ek1, ← em1]; exact P8.mixed_fits eF2 hfb hp0 hp1
          have hf2 : fits l2 k2 = true := by rw [← ek2, ← em2]; exact P8.mixed_fits hfb eF2 hp0 hp1
          have HM1 := Lib.hid (fun w' => em1 ▸ Mixed_spec a b p (by omega) (by omega) w')
          have HM2 := Lib.hid (fun w' => em2 ▸ Mixed_spec b a p (by omega) (by omega) w')
          have HK1 := Lib.hid (fun w' => ek1 ▸ Kept_impl l2 m1 (HR l2 hl2) w' (by omega))
          have HK2 := Lib.hid (fun w' => ek2 ▸ Kept_impl l2 m2 (HR l2 hl2) w' (by omega))
          have HF1 := Lib.hid (fun w' (hq : Below w.heap.size w w') => hf1 ▸ Fits_impl l2 k1 (HR l2 hl2) (by omega) w' (HP.out.on hq))
          have HF2 := Lib.hid (fun w' (hq : Below w.heap.size w w') => hf2 ▸ Fits_impl l2 k2 (HR l2 hl2) (by omega) w' (HP.out.on hq))
          clear hf1 hf2 em1 em2 ek1 ek2 ep
          go_upto_region 14 with (fail)
          refine RI.region_det1 [.int .i64 l2, .int .i64 l2, valV a, valV b, .int .i64 p, valV m1, valV k1, .bool true, .bool true, .int .i64 l2, .int .i64 l2, valV b, valV a, .int .i64 p, valV m2, valV k2, .bool true, .bool true, .bool true] (fun W => Q7 w W b3 b4 (cellsV a) (cellsV b)) (none :: none :: some 18 :: none :: none :: none :: none :: none :: none :: none :: none :: none :: none :: none :: none :: none :: none :: none :: none :: none :: none :: none :: none :: none :: none :: none :: none :: none :: none :: none :: none :: none :: none :: none :: none :: none :: none :: none :: none :: none :: none :: none :: none :: none :: none :: none :: none :: none :: none :: none :: none :: none :: none :: none :: none :: none :: none :: none :: none :: none :: none :: none :: none :: none :: none :: some 0 :: some 1 :: some 2 :: some 3 :: some 4 :: some 5 :: some 6 :: some 7 :: some 8 :: some 9 :: some 10 :: some 11 :: some 12 :: some 13 :: some 14 :: some 15 :: some 16 :: some 17 :: []) (by kernel_rfl) (by kernel_rfl) (hQ) ?_ ?_
          · intro i hi A W hB hA
            have hi2 : i < 19 := hi
            have hcase : i = 0 ∨ i = 1 ∨ i = 2 ∨ i = 3 ∨ i = 4 ∨ i = 5 ∨ i = 6 ∨ i = 7 ∨ i = 8 ∨ i = 9 ∨ i = 10 ∨ i = 11 ∨ i = 12 ∨ i = 13 ∨ i = 14 ∨ i = 15 ∨ i = 16 ∨ i = 17 ∨ i = 18 := by omega
            clear hi hi2
            rcases hcase with rfl | rfl | rfl | rfl | rfl | rfl | rfl | rfl | rfl | rfl | rfl | rfl | rfl | rfl | rfl | rfl | rfl | rfl | rfl
            · have s6 : A.tmps[6]?.getD undef = .int .i64 l2 := (hA.st 6 (by kernel_rfl)).trans rfl
              exact wpOp_of rfl rfl (wp_value (v := .int .i64 l2) (W' := W) (by simp [execOp, Act.eval, s6, go_sem]) ⟨rfl, hB⟩)
            · have s6 : A.tmps[6]?.getD undef = .int .i64 l2 := (hA.st 6 (by kernel_rfl)).trans rfl
              exact wpOp_of rfl rfl (wp_value (v := .int .i64 l2) (W' := W) (by simp [execOp, Act.eval, s6, go_sem]) ⟨rfl, hB⟩)
            · have s7 : A.tmps[7]?.getD undef = .pointer (some ⟨b3, 0, none⟩) := (hA.st 7 (by kernel_rfl)).trans rfl
              obtain ⟨c0, c1, c2, c3, c4, c5, c6⟩ := cells_open hB.x
              exact wpOp_of rfl rfl (wp_value (v := valV a) (W' := W) (by simp [execOp, Act.eval, s7, go_sem, c0, c1, c2, c3, c4, c5, c6, valV]) ⟨rfl, hB⟩)
            · have s8 : A.tmps[8]?.getD undef = .pointer (some ⟨b4, 0, none⟩) := (hA.st 8 (by kernel_rfl)).trans rfl
              obtain ⟨c0, c1, c2, c3, c4, c5, c6⟩ := cells_open hB.y
              exact wpOp_of rfl rfl (wp_value (v := valV b) (W' := W) (by simp [execOp, Act.eval, s8, go_sem, c0, c1, c2, c3, c4, c5, c6, valV]) ⟨rfl, hB⟩)
            · have s9 : A.tmps[9]?.getD undef = .int .i64 p := (hA.st 9 (by kernel_rfl)).trans rfl
              exact wpOp_of rfl rfl (wp_value (v := .int .i64 p) (W' := W) (by simp [execOp, Act.eval, s9, go_sem]) ⟨rfl, hB⟩)
            · have s67 : A.tmps[67]?.getD undef = valV a := hA.on 2 67 (by kernel_rfl) (by kernel_rfl)
              have s68 : A.tmps[68]?.getD undef = valV b := hA.on 3 68 (by kernel_rfl) (by kernel_rfl)
              have s69 : A.tmps[69]?.getD undef = .int .i64 p := hA.on 4 69 (by kernel_rfl) (by kernel_rfl)
              refine wpOp_of rfl rfl (wp_enter (f := 26) (args := #[valV a, valV b, .int .i64 p]) (by simp [execOp, Act.eval, s67, s68, s69, go_sem]) ?_)
              refine (HM1.out W).mono ?_
              rintro e w' ⟨rfl, hb'⟩
              exact ⟨_, rfl, rfl, Q7.call hB hb'⟩
            · have s66 : A.tmps[66]?.getD undef = .int .i64 l2 := hA.on 1 66 (by kernel_rfl) (by kernel_rfl)
              have s70 : A.tmps[70]?.getD undef = valV m1 := hA.on 5 70 (by kernel_rfl) (by kernel_rfl)
              refine wpOp_of rfl rfl (wp_enter (f := 23) (args := #[.int .i64 l2, valV m1]) (by simp [execOp, Act.eval, s66, s70, go_sem]) ?_)
              refine (HK1.out W).mono ?_
              rintro e w' ⟨rfl, hb'⟩
              exact ⟨_, rfl, rfl, Q7.call hB hb'⟩
            · have s65 : A.tmps[65]?.getD undef = .int .i64 l2 := hA.on 0 65 (by kernel_rfl) (by kernel_rfl)
              have s71 : A.tmps[71]?.getD undef = valV k1 := hA.on 6 71 (by kernel_rfl) (by kernel_rfl)
              refine wpOp_of rfl rfl (wp_enter (f := 15) (args := #[.int .i64 l2, valV k1]) (by simp [execOp, Act.eval, s65, s71, go_sem]) ?_)
              refine (HF1.out W hB.b).mono ?_
              rintro e w' ⟨rfl, hb'⟩
              exact ⟨_, rfl, rfl, Q7.call hB hb'⟩
            · have s72 : A.tmps[72]?.getD undef = .bool true := hA.on 7 72 (by kernel_rfl) (by kernel_rfl)
              exact wpOp_of rfl rfl (wp_value (v := .bool true) (W' := W) (by simp [execOp, Act.eval, s72, go_sem]) ⟨rfl, hB⟩)
            · have hg : A.tmps[73]?.getD undef = .bool true := hA.on 8 73 (by kernel_rfl) (by kernel_rfl)
              have s6 : A.tmps[6]?.getD undef = .int .i64 l2 := (hA.st 6 (by kernel_rfl)).trans rfl
              exact wpOp_want rfl rfl (by kernel_rfl) hg (wp_value (v := .int .i64 l2) (W' := W) (by simp [execOp, Act.eval, s6, go_sem]) ⟨rfl, hB⟩)
            · have hg : A.tmps[73]?.getD undef = .bool true := hA.on 8 73 (by kernel_rfl) (by kernel_rfl)
              have s6 : A.tmps[6]?.getD undef = .int .i64 l2 := (hA.st 6 (by kernel_rfl)).trans rfl
              exact wpOp_want rfl rfl (by kernel_rfl) hg (wp_value (v := .int .i64 l2) (W' := W) (by simp [execOp, Act.eval, s6, go_sem]) ⟨rfl, hB⟩)
            · have hg : A.tmps[73]?.getD undef = .bool true := hA.on 8 73 (by kernel_rfl) (by kernel_rfl)
              have s8 : A.tmps[8]?.getD undef = .pointer (some ⟨b4, 0, none⟩) := (hA.st 8 (by kernel_rfl)).trans rfl
              obtain ⟨c0, c1, c2, c3, c4, c5, c6⟩ := cells_open hB.y
              exact wpOp_want rfl rfl (by kernel_rfl) hg (wp_value (v := valV b) (W' := W) (by simp [execOp, Act.eval, s8, go_sem, c0, c1, c2, c3, c4, c5, c6, valV]) ⟨rfl, hB⟩)
            · have hg : A.tmps[73]?.getD undef = .bool true := hA.on 8 73 (by kernel_rfl) (by kernel_rfl)
              have s7 : A.tmps[7]?.getD undef = .pointer (some ⟨b3, 0, none⟩) := (hA.st 7 (by kernel_rfl)).trans rfl
              obtain ⟨c0, c1, c2, c3, c4, c5, c6⟩ := cells_open hB.x
              exact wpOp_want rfl rfl (by kernel_rfl) hg (wp_value (v := valV a) (W' := W) (by simp [execOp, Act.eval, s7, go_sem, c0, c1, c2, c3, c4, c5, c6, valV]) ⟨rfl, hB⟩)
            · have hg : A.tmps[73]?.getD undef = .bool true := hA.on 8 73 (by kernel_rfl) (by kernel_rfl)
              have s9 : A.tmps[9]?.getD undef = .int .i64 p := (hA.st 9 (by kernel_rfl)).trans rfl
              exact wpOp_want rfl rfl (by kernel_rfl) hg (wp_value (v := .int .i64 p) (W' := W) (by simp [execOp, Act.eval, s9, go_sem]) ⟨rfl, hB⟩)
            · have hg : A.tmps[73]?.getD undef = .bool true := hA.on 8 73 (by kernel_rfl) (by kernel_rfl)
              have s76 : A.tmps[76]?.getD undef = valV b := hA.on 11 76 (by kernel_rfl) (by kernel_rfl)
              have s77 : A.tmps[77]?.getD undef = valV a := hA.on 12 77 (by kernel_rfl) (by kernel_rfl)
              have s78 : A.tmps[78]?.getD undef = .int .i64 p := hA.on 13 78 (by kernel_rfl) (by kernel_rfl)
              refine wpOp_want rfl rfl (by kernel_rfl) hg (wp_enter (f := 26) (args := #[valV b, valV a, .int .i64 p]) (by simp [execOp, Act.eval, s76, s77, s78, go_sem]) ?_)
              refine (HM2.out W).mono ?_
              rintro e w' ⟨rfl, hb'⟩
              exact ⟨_, rfl, rfl, Q7.call hB hb'⟩
            · have hg : A.tmps[73]?.getD undef = .bool true := hA.on 8 73 (by kernel_rfl) (by kernel_rfl)
              have s75 : A.tmps[75]?.getD undef = .int .i64 l2 := hA.on 10 75 (by kernel_rfl) (by kernel_rfl)
              have s79 : A.tmps[79]?.getD undef = valV m2 := hA.on 14 79 (by kernel_rfl) (by kernel_rfl)
              refine wpOp_want rfl rfl (by kernel_rfl) hg (wp_enter (f := 23) (args := #[.int .i64 l2, valV m2]) (by simp [execOp, Act.eval, s75, s79, go_sem]) ?_)
              refine (HK2.out W).mono ?_
              rintro e w' ⟨rfl, hb'⟩
              exact ⟨_, rfl, rfl, Q7.call hB hb'⟩
            · have hg : A.tmps[73]?.getD undef = .bool true := hA.on 8 73 (by kernel_rfl) (by kernel_rfl)
              have s74 : A.tmps[74]?.getD undef = .int .i64 l2 := hA.on 9 74 (by kernel_rfl) (by kernel_rfl)
              have s80 : A.tmps[80]?.getD undef = valV k2 := hA.on 15 80 (by kernel_rfl) (by kernel_rfl)
              refine wpOp_want rfl rfl (by kernel_rfl) hg (wp_enter (f := 15) (args := #[.int .i64 l2, valV k2]) (by simp [execOp, Act.eval, s74, s80, go_sem]) ?_)
              refine (HF2.out W hB.b).mono ?_
              rintro e w' ⟨rfl, hb'⟩
              exact ⟨_, rfl, rfl, Q7.call hB hb'⟩
            · have s73 : A.tmps[73]?.getD undef = .bool true := hA.on 8 73 (by kernel_rfl) (by kernel_rfl)
              have s81 : A.tmps[81]?.getD undef = .bool true := hA.on 16 81 (by kernel_rfl) (by kernel_rfl)
              exact wpOp_of rfl rfl (wp_value (v := .bool true) (W' := W) (by simp [execOp, Act.eval, s73, s81, go_sem]) ⟨rfl, hB⟩)
            · have s82 : A.tmps[82]?.getD undef = .bool true := hA.on 17 82 (by kernel_rfl) (by kernel_rfl)
              exact wpOp_of rfl rfl (wp_value (v := .bool true) (W' := W) (by simp [execOp, Act.eval, s82, go_sem]) ⟨rfl, hB⟩)
          intro wT hT
          simp only [RI.mergeL, List.getElem?_cons_zero, List.getElem?_cons_succ, Option.getD_some]
          go_wp2_with fail
          go_ret
          exact ⟨rfl, hT.b⟩
      · have hno : ¬ (0 ≤ l ∧ l ≤ 5) := fun h0 => hlook (P8.look_iff.2 h0)
        have hz : y = Va.zero := by
          rw [← ey]
          unfold kept
          rw [if_neg hlook]
        have heq0 : ∀ w', (Op.equalIn 10000 29 (.agg #[.int .i64 y.k, .int .i64 y.n, .int .i64 y.r, .int .i64 y.g, .int .i64 y.b, .int .i64 y.c, .string ⟨y.w.toArray⟩]) (.agg #[.int .i64 0, .int .i64 0, .int .i64 0, .int .i64 0, .int .i64 0, .int .i64 0, .string ⟨#[]⟩])).run Tryz.prog w' = .ok true w' := fun w' => by
          have h := eqV y Va.zero w'
          rw [show Va.same y Va.zero = true by rw [hz]; exact same_self _] at h
          exact h
        obtain ⟨q0, q1, q2, q3, q4, q5, q6⟩ := cells_open hR.y
        clear hlook hz
        by_cases hlt : l < 0
        · clear hno
          go_wp2_with fail
          go_ret
          exact ⟨rfl, hR.b⟩
        · have hgt : 5 < l := by omega
          clear hno
          go_wp2_with fail
          go_ret
          exact ⟨rfl, hR.b⟩

set_option maxRecDepth 100000 in
theorem lifted (os : Os) (started : os.Started) (H : Type) (enc : TypeId × Value → H) :
    ReturnsInHanded {} Tryz.checked os 4 .any (fun w args => (Rows.fnKeptSpec.pre enc Tryz.prog Tryz.f4 Rows.fnKeptRow.domain false w args ∧ laidMetH Tryz.prog Rows.fnKeptRow.laid w) ∧ sizedMet enc Tryz.prog Tryz.f4 (OpenSpec.ofChange Rows.fnKeptSpec) false w args)
      (Rows.fnKeptSpec.post enc Tryz.prog Tryz.f4 false true false false) := by
  refine returnsInHanded_of_calls (C := Tryz.checked) own started (by kernel_rfl)
    (ChangeSpec.witness_shaped (enc := enc) (C := Tryz.checked) (os := os) (X := fun w _ => laidMetH Tryz.prog Rows.fnKeptRow.laid w) false (World.laidAll Tryz.prog os Rows.fnKeptRow.laid) #[.slice none 0 0] 8 (World.laidAll_os _ _ _)
      (World.shaped_of_ZipB (by kernel_rfl) (by kernel_rfl)) (by kernel_rfl) (by kernel_rfl) (by kernel_rfl)
      (by rw [MakeChecks.laidMetH_plain _ _ _ (by kernel_rfl)]; exact laidMet_laidAll _ (by kernel_rfl) (by kernel_rfl))) ?_
  intro w0 tape i _ hsh0 _ hok hpre _
  obtain ⟨_, _, _, fn', hfn', _, _, _, _, hval00⟩ := hok
  obtain rfl : fn' = Tryz.f4 := Option.some.inj (hfn'.symm.trans Tryz.func4)
  obtain ⟨⟨⟨ds, gs, before, hw, _⟩, hx⟩, _⟩ := hpre
  have hW0 := DataW.Whole.of_heap (w' := w0.forCall tape i) (by rfl) hw
  have hL0 : laidMetH Tryz.prog Rows.fnKeptRow.laid (w0.forCall tape i) := hx.of_heap (by rfl)
  suffices hgo : ∀ (W : World) (base : Nat) (args : Array Value), (∀ (j : Nat) t v, Tryz.f4.params[j]? = some t → args[j]? = some v → Value.okWide Tryz.prog W .any base t v) →
      DataW.Whole enc Tryz.prog Tryz.f4.params.toList Rows.fnKeptSpec.vars false W args.toList ds gs before → laidMetH Tryz.prog Rows.fnKeptRow.laid W → W.ShapedOpen Tryz.prog →
      Calls Tryz.prog 4 args W fun e W' => ∃ v, e = .returned v ∧ Rows.fnKeptSpec.post enc Tryz.prog Tryz.f4 false true false false W args v W' by
    refine (hgo _ _ _ hval00 hW0 hL0 hsh0).mono fun e W' ⟨v, he, hp⟩ => ?_
    subst he
    exact ChangeSpec.post_blind hp
  clear hsh0 hval00 hW0 hL0 hx hw hfn'
  intro W base args hval0 hW hL hsh
  have hval : ∀ (j : Nat) t v, Tryz.f4.params[j]? = some t → args[j]? = some v → Value.okWide Tryz.prog W .any base t v := hval0
  have hW' := hW
  obtain ⟨p, q, hA0, hV, rfl, hfz, hnd⟩ := hW
  have hA : DataW.TrodAll enc Tryz.prog W 0 (fun _ => true) true Tryz.f4.params.toList args.toList ds p := hA0
  rw [Tryz.params4] at hA hval
  obtain ⟨v0, vs0, d0, ds0, p0, q0, hargs, rfl, rfl, h0, r0⟩ := trodAll_cons hA
  obtain ⟨rfl, rfl, rfl⟩ := trodAll_nil r0
  obtain rfl : args = #[v0] := by cases args; simp_all
  obtain ⟨rfl, rfl⟩ := trodVars_none hV
  have k0 := h0
  have lt0 : ∀ x ∈ p0, x.block < W.heap.size := by obtain ⟨m, hm⟩ := k0; exact DataW.trod_lt m _ _ _ hm
  obtain ⟨a0, len0, cap0, rfl, w0⟩ := open_bytes (hval 0 22 v0 rfl rfl) h0
  refine (walk a0 len0 cap0 W w0 (B8.laid_fnKept hL)).mono fun e W' ⟨he, bel⟩ => ?_
  subst he
  exact ⟨_, rfl, _, _, _, [], _, [], hW', trodAll_mk1 (shut_bool Tryz.underlying4 _), (trodAll_cons_mk (Below.trod laidOut (by kernel_rfl) (of_decide_eq_true (by kernel_rfl)) k0 bel lt0) trodAll_mk0), rfl, bel.frame _, fun h => by cases h⟩

theorem over : Rows.fnKeptRow.holds Tryz.pinned (OpenSpec.ofChange Rows.fnKeptSpec) :=
  OpenClaim.holds_of_wide 4 Tryz.f4 rfl rfl rfl rfl rfl rfl rfl ⟨rfl, rfl, rfl, rfl, rfl⟩ rfl rfl rfl rfl rfl (by kernel_rfl) Tryz.func4 (by kernel_rfl)
    (of_decide_eq_true (by kernel_rfl)) (by unfold Func.isWrapper; first | (rw [if_pos (by decide +kernel)]; kernel_rfl) | (rw [if_neg (by decide +kernel)]; exact ⟨rfl, rfl⟩))
    (fun os started H enc _ => lifted os started H enc)

theorem proved : Rows.FnKeptCardSaid :=
  Claim7.holds_tied_plain_at .later [] [.data, .data, .data, .sentinel, .sentinel] true (true, "247807357f3734b21666d2679388be581bbad39ecec2917f0fa20968e0b04bb7") true over (fun _ h => by cases h) (by kernel_rfl) (fun _ h => by cases h) fnKept_row_tie rfl ⟨rfl, rfl⟩ (by kernel_rfl) rfl
    (fun f fn hf hfn => by
      obtain rfl : f = 4 := Option.some.inj ((show Tryz.prog.funcNamed "loop.example/g00521/laws.FnKept" = some 4 by kernel_rfl).symm.trans hf) |>.symm
      obtain rfl : fn = Tryz.f4 := (Option.some.inj (Tryz.func4.symm.trans hfn)).symm
      exact ⟨by kernel_rfl, fun j t ht => by
        have hm : t ∈ Tryz.f4.params.toList := by simpa using Array.mem_of_getElem? ht
        have hall : (Tryz.f4.params.toList.all fun u => !Tryz.prog.wantsStandIn u) = true := by kernel_rfl
        exact (show Tryz.prog.wantsStandIn t = false by simpa using List.all_eq_true.1 hall t hm)⟩)
    (by kernel_rfl)
#print axioms proved
end Go.Proofs.YtjgfbbjecbeipaaGreatDoor.fnKept
