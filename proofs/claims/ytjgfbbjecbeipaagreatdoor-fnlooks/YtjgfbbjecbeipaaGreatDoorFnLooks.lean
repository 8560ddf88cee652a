/- Proved: for every slice of bytes FnLooks answers true: of what the bytes draw, each look has a name, and what it is at first it may be. No condition. -/
import Derived.Test.YtjgfbbjecbeipaaGreatDoorBase8
import Derived.Test.YtjgfbbjecbeipaaGreatDoorDraw8
import Derived.Test.YtjgfbbjecbeipaaGreatDoorImp8f
import Derived.Test.YtjgfbbjecbeipaaGreatDoorMade7
import Derived.Test.YtjgfbbjecbeipaaGreatDoorBase7n
import Derived.Test.YtjgfbbjecbeipaaGreatDoorDoor8
import Derived.Test.YtjgfbbjecbeipaaGreatDoorOpenB
import Derived.Test.YtjgfbbjecbeipaaGreatDoorInv
import Derived.Test.YtjgfbbjecbeipaaGreatDoorImp5f
import Derived.Deep.RegionHeld3
import Derived.Test.YtjgfbbjecbeipaaGreatDoorRows
import Derived.Test.YtjgfbbjecbeipaaGreatDoorCards
import Derived.Test.YtjgfbbjecbeipaaGreatDoorTie
import Derived.WalkKit
import Derived.ProofKit
import Derived.OpenShut
import Derived.ShutString
import Derived.ChangeOld
import Derived.Below
import Derived.OpenVars
import Derived.ChangeVars
import Derived.Handed
import Derived.Lay
import Derived.LaidLaws
import Derived.MakeChecks
import Derived.SevenTiedAt
import Derived.Stop.Joined
namespace Go.Proofs.YtjgfbbjecbeipaaGreatDoor.fnLooks
open Go.ChangeShapes Go.WideShapes Go.ChangeAt Go.RowKit
open Go.ChangeMaps (open_string shut_string)
set_option linter.unusedVariables false

theorem own : ownKnob Tryz.prog.godebug = none := by kernel_rfl
theorem laidOut : laidOutB Tryz.prog = true := by kernel_rfl

open Go.Proofs.YtjgfbbjecbeipaaGreatDoor.P1 Go.Proofs.YtjgfbbjecbeipaaGreatDoor.B1 Go.Proofs.YtjgfbbjecbeipaaGreatDoor.B2 Go.Proofs.YtjgfbbjecbeipaaGreatDoor.T1 Go.Proofs.YtjgfbbjecbeipaaGreatDoor.BT Go.Proofs.YtjgfbbjecbeipaaGreatDoor.P5 Go.Proofs.YtjgfbbjecbeipaaGreatDoor.P6 Go.Proofs.YtjgfbbjecbeipaaGreatDoor.P8 Go.Proofs.YtjgfbbjecbeipaaGreatDoor.B5 Go.Proofs.YtjgfbbjecbeipaaGreatDoor.B6 Go.Proofs.YtjgfbbjecbeipaaGreatDoor.B7 Go.Proofs.YtjgfbbjecbeipaaGreatDoor.B8 Go.Proofs.YtjgfbbjecbeipaaGreatDoor.S7 Go.Proofs.YtjgfbbjecbeipaaGreatDoor.D1 Go.Proofs.YtjgfbbjecbeipaaGreatDoor.RI
theorem cells_open {w : World} {b : Nat} {x : Va} (h : LBlk w b (cellsV x)) : w.cell? ⟨b, 0, none⟩ = some (.int .i64 x.k) ∧ w.cell? ⟨b, 1, none⟩ = some (.int .i64 x.n) ∧ w.cell? ⟨b, 2, none⟩ = some (.int .i64 x.r) ∧ w.cell? ⟨b, 3, none⟩ = some (.int .i64 x.g) ∧ w.cell? ⟨b, 4, none⟩ = some (.int .i64 x.b) ∧ w.cell? ⟨b, 5, none⟩ = some (.int .i64 x.c) ∧ w.cell? ⟨b, 6, none⟩ = some (.string ⟨x.w.toArray⟩) := by
  obtain ⟨c0, c1, c2, c3, c4, c5, c6, _⟩ := seven_cells h
  exact ⟨c0, c1, c2, c3, c4, c5, c6⟩
set_option maxRecDepth 100000 in
set_option maxHeartbeats 8000000 in
theorem walk (A0 : Option Addr) (len0 cap0 : Nat) (w : World) (w0 : len0 ≤ 4096 → Bytes w w.heap.size A0 len0) (L : B5.Pow w) :
    Calls Tryz.prog 3 #[.slice A0 len0 cap0] w (Ans (.bool true) w) := by
  have HP := Lib.hid L
  clear L
  by_cases hbig : 4096 < len0
  · go_enter Tryz.func3, Tryz.ntmps3
    go_wp2
    go_ret
    exact ⟨rfl, Below.refl _ _⟩
  · have hb := w0 (by omega)
    clear w0
    have HBY := Lib.hid (fun w' (hq : Below w.heap.size w w') => hb.below hq)
    clear hb
    go_enter Tryz.func3, Tryz.ntmps3
    go_wp2_with (first | (go_at_call 5; go_in) | fail)
    refine (D8.LookOf_draw _ A0 len0 cap0 (HBY.out _ (Below.refl _ _))).mono ?_
    rintro e w1 ⟨s, rfl, hsl, g1⟩
    go_wp2_with fail
    refine (D8.NameOf_draw _ A0 len0 cap0 (HBY.out _ g1)).mono ?_
    rintro e w2 ⟨lk, hlk, rfl, g2'⟩
    have g2 := g1.trans (g2'.mono g1.size)
    clear g1 g2'
    have HR : ∀ l, D8.InLook l → -9223372036854775808 ≤ l ∧ l ≤ 9223372036854775807 := fun l h => by unfold D8.InLook at h; omega
    obtain ⟨N, eN⟩ : ∃ N, lookOf s = N := ⟨_, rfl⟩
    obtain ⟨T, eT⟩ : ∃ T, nameOf lk = T := ⟨_, rfl⟩
    go_wp2_with fail
    refine (eN ▸ LookOf_impl s _ (by omega)).mono ?_
    rintro e w3 ⟨rfl, g3'⟩
    have g3 := g2.trans (g3'.mono g2.size)
    clear g2 g3'
    go_wp2_with fail
    refine (eT ▸ NameOf_impl lk _ (HR lk hlk)).mono ?_
    rintro e w4 ⟨rfl, g4'⟩
    have g4 := g3.trans (g4'.mono g3.size)
    clear g3 g4'
    go_wp2_with fail
    refine (D8.Fits_draw _ A0 len0 cap0 (HBY.out _ g4)).mono ?_
    rintro e w5 ⟨l, x, rfl, hl, hxl, g5'⟩
    have g5 := g4.trans (g5'.mono g4.size)
    clear g4 g5'
    have hQ := Q1.new g5 (cellsV x) 29
    have hbv := g5.size
    clear g5
    unfold valV
    go_wp2_with fail
    refine (D8.AtFirst_draw _ A0 len0 cap0 (HBY.out _ hQ.b)).mono ?_
    rintro e w6 ⟨f, hf, rfl, g6⟩
    replace hQ := Q1.call hQ g6
    clear g6
    go_wp2_with fail
    refine (D8.HandedDown_draw _ A0 len0 cap0 (HBY.out _ hQ.b)).mono ?_
    rintro e w7 ⟨h, hh, rfl, g7⟩
    replace hQ := Q1.call hQ g7
    clear g7
    obtain ⟨bv, ebv⟩ : ∃ bv, w5.heap.size = bv := ⟨_, rfl⟩
    rw [ebv] at hQ ⊢
    clear ebv hbv
    have HLS := Lib.hid (fun w' => eN ▸ LookOf_spec s w')
    have HNS := Lib.hid (fun w' => eT ▸ NameOf_spec lk w')
    have HFI := Lib.hid (fun w' (hq : Below w.heap.size w w') => Fits_impl l x (HR l hl) (by omega) w' (HP.out.on hq))
    have HFS := Lib.hid (fun w' => Fits_spec l x (by omega) w')
    have HAI := Lib.hid (fun w' => AtFirst_impl f w' (HR f hf))
    have HAS := Lib.hid (fun w' => AtFirst_spec f w')
    have HHI := Lib.hid (fun w' => HandedDown_impl h w' (HR h hh))
    have HHS := Lib.hid (fun w' => HandedDown_spec h w')
    obtain ⟨FT, eF⟩ : ∃ FT, fits l x = FT := ⟨_, rfl⟩
    obtain ⟨af, eA⟩ : ∃ af, atFirst f = af := ⟨_, rfl⟩
    obtain ⟨hd, eH⟩ : ∃ hd, handed h = hd := ⟨_, rfl⟩
    rw [eF] at HFI HFS
    rw [eA] at HAI HAS
    rw [eH] at HHI HHS
    go_upto_region 10 with (fail)
    refine RI.region_det (by kernel_rfl) [.int .i64 N, .string ⟨s.toArray⟩, .int .i64 N, .bool false, .bool false, .string ⟨T.toArray⟩, .int .i64 lk, .string ⟨T.toArray⟩, .bool false, .bool false, .bool false, .int .i64 l, valV x, .bool FT, .int .i64 l, valV x, .bool FT, .bool false, .bool false, .bool false, .int .i64 f, valV af, .int .i64 f, valV af, .bool false, .bool false, .bool false, .int .i64 h, .bool hd, .int .i64 h, .bool hd, .bool false, .bool false] (fun W => Q1 w W bv (cellsV x)) (none :: none :: none :: none :: none :: none :: none :: none :: none :: none :: none :: none :: none :: none :: none :: none :: none :: none :: none :: none :: none :: none :: none :: none :: none :: none :: none :: none :: none :: none :: some 0 :: some 1 :: some 2 :: some 3 :: some 4 :: some 5 :: some 6 :: some 7 :: some 8 :: some 9 :: some 10 :: some 11 :: some 12 :: some 13 :: some 14 :: some 15 :: some 16 :: some 17 :: some 18 :: some 19 :: some 20 :: some 21 :: some 22 :: some 23 :: some 24 :: some 25 :: some 26 :: some 27 :: some 28 :: some 29 :: some 30 :: some 31 :: some 32 :: none :: none :: none :: none :: none :: none :: none :: none :: none :: none :: none :: none :: none :: none :: none :: none :: none :: none :: none :: none :: none :: none :: none :: none :: none :: none :: none :: none :: none :: none :: none :: none :: none :: none :: none :: none :: none :: none :: none :: none :: []) (by kernel_rfl) (by kernel_rfl) (Q1.drew hQ) ?_ ?_
    · intro i hi A W hB hA
      have hi2 : i < 33 := hi
      have hcase : i = 0 ∨ i = 1 ∨ i = 2 ∨ i = 3 ∨ i = 4 ∨ i = 5 ∨ i = 6 ∨ i = 7 ∨ i = 8 ∨ i = 9 ∨ i = 10 ∨ i = 11 ∨ i = 12 ∨ i = 13 ∨ i = 14 ∨ i = 15 ∨ i = 16 ∨ i = 17 ∨ i = 18 ∨ i = 19 ∨ i = 20 ∨ i = 21 ∨ i = 22 ∨ i = 23 ∨ i = 24 ∨ i = 25 ∨ i = 26 ∨ i = 27 ∨ i = 28 ∨ i = 29 ∨ i = 30 ∨ i = 31 ∨ i = 32 := by omega
      clear hi hi2
      rcases hcase with rfl | rfl | rfl | rfl | rfl | rfl | rfl | rfl | rfl | rfl | rfl | rfl | rfl | rfl | rfl | rfl | rfl | rfl | rfl | rfl | rfl | rfl | rfl | rfl | rfl | rfl | rfl | rfl | rfl | rfl | rfl | rfl | rfl
      · have s5 : A.tmps[5]?.getD undef = .int .i64 N := (hA.st 5 (by kernel_rfl)).trans rfl
        exact wpOp_of rfl rfl (wp_value (v := .int .i64 N) (W' := W) (by simp [execOp, Act.eval, s5, go_sem]) ⟨rfl, hB⟩)
      · have s3 : A.tmps[3]?.getD undef = .string ⟨s.toArray⟩ := (hA.st 3 (by kernel_rfl)).trans rfl
        exact wpOp_of rfl rfl (wp_value (v := .string ⟨s.toArray⟩) (W' := W) (by simp [execOp, Act.eval, s3, go_sem]) ⟨rfl, hB⟩)
      · have s31 : A.tmps[31]?.getD undef = .string ⟨s.toArray⟩ := hA.on 1 31 (by kernel_rfl) (by kernel_rfl)
        refine wpOp_of rfl rfl (wp_enter (f := 13) (args := #[.string ⟨s.toArray⟩]) (by simp [execOp, Act.eval, s31, go_sem]) ?_)
        refine (HLS.out W).mono ?_
        rintro e w' ⟨rfl, hb'⟩
        exact ⟨_, rfl, rfl, Q1.call hB hb'⟩
      · have s30 : A.tmps[30]?.getD undef = .int .i64 N := hA.on 0 30 (by kernel_rfl) (by kernel_rfl)
        have s32 : A.tmps[32]?.getD undef = .int .i64 N := hA.on 2 32 (by kernel_rfl) (by kernel_rfl)
        exact wpOp_of rfl rfl (wp_value (v := .bool false) (W' := W) (by simp [execOp, Act.eval, s30, s32, go_sem]) ⟨rfl, hB⟩)
      · have s33 : A.tmps[33]?.getD undef = .bool false := hA.on 3 33 (by kernel_rfl) (by kernel_rfl)
        exact wpOp_of rfl rfl (wp_value (v := .bool false) (W' := W) (by simp [execOp, Act.eval, s33, go_sem]) ⟨rfl, hB⟩)
      · have hg : A.tmps[34]?.getD undef = .bool false := hA.on 4 34 (by kernel_rfl) (by kernel_rfl)
        have s6 : A.tmps[6]?.getD undef = .string ⟨T.toArray⟩ := (hA.st 6 (by kernel_rfl)).trans rfl
        exact wpOp_want rfl rfl (by kernel_rfl) hg (wp_value (v := .string ⟨T.toArray⟩) (W' := W) (by simp [execOp, Act.eval, s6, go_sem]) ⟨rfl, hB⟩)
      · have hg : A.tmps[34]?.getD undef = .bool false := hA.on 4 34 (by kernel_rfl) (by kernel_rfl)
        have s4 : A.tmps[4]?.getD undef = .int .i64 lk := (hA.st 4 (by kernel_rfl)).trans rfl
        exact wpOp_want rfl rfl (by kernel_rfl) hg (wp_value (v := .int .i64 lk) (W' := W) (by simp [execOp, Act.eval, s4, go_sem]) ⟨rfl, hB⟩)
      · have hg : A.tmps[34]?.getD undef = .bool false := hA.on 4 34 (by kernel_rfl) (by kernel_rfl)
        have s36 : A.tmps[36]?.getD undef = .int .i64 lk := hA.on 6 36 (by kernel_rfl) (by kernel_rfl)
        refine wpOp_want rfl rfl (by kernel_rfl) hg (wp_enter (f := 14) (args := #[.int .i64 lk]) (by simp [execOp, Act.eval, s36, go_sem]) ?_)
        refine (HNS.out W).mono ?_
        rintro e w' ⟨rfl, hb'⟩
        exact ⟨_, rfl, rfl, Q1.call hB hb'⟩
      · have hg : A.tmps[34]?.getD undef = .bool false := hA.on 4 34 (by kernel_rfl) (by kernel_rfl)
        have s35 : A.tmps[35]?.getD undef = .string ⟨T.toArray⟩ := hA.on 5 35 (by kernel_rfl) (by kernel_rfl)
        have s37 : A.tmps[37]?.getD undef = .string ⟨T.toArray⟩ := hA.on 7 37 (by kernel_rfl) (by kernel_rfl)
        exact wpOp_want rfl rfl (by kernel_rfl) hg (wp_value (v := .bool false) (W' := W) (by simp [execOp, Act.eval, s35, s37, go_sem]) ⟨rfl, hB⟩)
      · have s34 : A.tmps[34]?.getD undef = .bool false := hA.on 4 34 (by kernel_rfl) (by kernel_rfl)
        have s38 : A.tmps[38]?.getD undef = .bool false := hA.on 8 38 (by kernel_rfl) (by kernel_rfl)
        exact wpOp_of rfl rfl (wp_value (v := .bool false) (W' := W) (by simp [execOp, Act.eval, s34, s38, go_sem]) ⟨rfl, hB⟩)
      · have s39 : A.tmps[39]?.getD undef = .bool false := hA.on 9 39 (by kernel_rfl) (by kernel_rfl)
        exact wpOp_of rfl rfl (wp_value (v := .bool false) (W' := W) (by simp [execOp, Act.eval, s39, go_sem]) ⟨rfl, hB⟩)
      · have hg : A.tmps[40]?.getD undef = .bool false := hA.on 10 40 (by kernel_rfl) (by kernel_rfl)
        have s7 : A.tmps[7]?.getD undef = .int .i64 l := (hA.st 7 (by kernel_rfl)).trans rfl
        exact wpOp_want rfl rfl (by kernel_rfl) hg (wp_value (v := .int .i64 l) (W' := W) (by simp [execOp, Act.eval, s7, go_sem]) ⟨rfl, hB⟩)
      · have hg : A.tmps[40]?.getD undef = .bool false := hA.on 10 40 (by kernel_rfl) (by kernel_rfl)
        have s8 : A.tmps[8]?.getD undef = .pointer (some ⟨bv, 0, none⟩) := (hA.st 8 (by kernel_rfl)).trans rfl
        obtain ⟨c0, c1, c2, c3, c4, c5, c6⟩ := cells_open hB.x
        exact wpOp_want rfl rfl (by kernel_rfl) hg (wp_value (v := valV x) (W' := W) (by simp [execOp, Act.eval, s8, go_sem, c0, c1, c2, c3, c4, c5, c6, valV]) ⟨rfl, hB⟩)
      · have hg : A.tmps[40]?.getD undef = .bool false := hA.on 10 40 (by kernel_rfl) (by kernel_rfl)
        have s41 : A.tmps[41]?.getD undef = .int .i64 l := hA.on 11 41 (by kernel_rfl) (by kernel_rfl)
        have s42 : A.tmps[42]?.getD undef = valV x := hA.on 12 42 (by kernel_rfl) (by kernel_rfl)
        refine wpOp_want rfl rfl (by kernel_rfl) hg (wp_enter (f := 15) (args := #[.int .i64 l, valV x]) (by simp [execOp, Act.eval, s41, s42, go_sem]) ?_)
        refine (HFI.out W hB.b).mono ?_
        rintro e w' ⟨rfl, hb'⟩
        exact ⟨_, rfl, rfl, Q1.call hB hb'⟩
      · have hg : A.tmps[40]?.getD undef = .bool false := hA.on 10 40 (by kernel_rfl) (by kernel_rfl)
        have s7 : A.tmps[7]?.getD undef = .int .i64 l := (hA.st 7 (by kernel_rfl)).trans rfl
        exact wpOp_want rfl rfl (by kernel_rfl) hg (wp_value (v := .int .i64 l) (W' := W) (by simp [execOp, Act.eval, s7, go_sem]) ⟨rfl, hB⟩)
      · have hg : A.tmps[40]?.getD undef = .bool false := hA.on 10 40 (by kernel_rfl) (by kernel_rfl)
        have s8 : A.tmps[8]?.getD undef = .pointer (some ⟨bv, 0, none⟩) := (hA.st 8 (by kernel_rfl)).trans rfl
        obtain ⟨c0, c1, c2, c3, c4, c5, c6⟩ := cells_open hB.x
        exact wpOp_want rfl rfl (by kernel_rfl) hg (wp_value (v := valV x) (W' := W) (by simp [execOp, Act.eval, s8, go_sem, c0, c1, c2, c3, c4, c5, c6, valV]) ⟨rfl, hB⟩)
      · have hg : A.tmps[40]?.getD undef = .bool false := hA.on 10 40 (by kernel_rfl) (by kernel_rfl)
        have s44 : A.tmps[44]?.getD undef = .int .i64 l := hA.on 14 44 (by kernel_rfl) (by kernel_rfl)
        have s45 : A.tmps[45]?.getD undef = valV x := hA.on 15 45 (by kernel_rfl) (by kernel_rfl)
        refine wpOp_want rfl rfl (by kernel_rfl) hg (wp_enter (f := 16) (args := #[.int .i64 l, valV x]) (by simp [execOp, Act.eval, s44, s45, go_sem]) ?_)
        refine (HFS.out W).mono ?_
        rintro e w' ⟨rfl, hb'⟩
        exact ⟨_, rfl, rfl, Q1.call hB hb'⟩
      · have hg : A.tmps[40]?.getD undef = .bool false := hA.on 10 40 (by kernel_rfl) (by kernel_rfl)
        have s43 : A.tmps[43]?.getD undef = .bool FT := hA.on 13 43 (by kernel_rfl) (by kernel_rfl)
        have s46 : A.tmps[46]?.getD undef = .bool FT := hA.on 16 46 (by kernel_rfl) (by kernel_rfl)
        exact wpOp_want rfl rfl (by kernel_rfl) hg (wp_value (v := .bool false) (W' := W) (by simp [execOp, Act.eval, s43, s46, go_sem]) ⟨rfl, hB⟩)
      · have s40 : A.tmps[40]?.getD undef = .bool false := hA.on 10 40 (by kernel_rfl) (by kernel_rfl)
        have s47 : A.tmps[47]?.getD undef = .bool false := hA.on 17 47 (by kernel_rfl) (by kernel_rfl)
        exact wpOp_of rfl rfl (wp_value (v := .bool false) (W' := W) (by simp [execOp, Act.eval, s40, s47, go_sem]) ⟨rfl, hB⟩)
      · have s48 : A.tmps[48]?.getD undef = .bool false := hA.on 18 48 (by kernel_rfl) (by kernel_rfl)
        exact wpOp_of rfl rfl (wp_value (v := .bool false) (W' := W) (by simp [execOp, Act.eval, s48, go_sem]) ⟨rfl, hB⟩)
      · have hg : A.tmps[49]?.getD undef = .bool false := hA.on 19 49 (by kernel_rfl) (by kernel_rfl)
        have s9 : A.tmps[9]?.getD undef = .int .i64 f := (hA.st 9 (by kernel_rfl)).trans rfl
        exact wpOp_want rfl rfl (by kernel_rfl) hg (wp_value (v := .int .i64 f) (W' := W) (by simp [execOp, Act.eval, s9, go_sem]) ⟨rfl, hB⟩)
      · have hg : A.tmps[49]?.getD undef = .bool false := hA.on 19 49 (by kernel_rfl) (by kernel_rfl)
        have s50 : A.tmps[50]?.getD undef = .int .i64 f := hA.on 20 50 (by kernel_rfl) (by kernel_rfl)
        refine wpOp_want rfl rfl (by kernel_rfl) hg (wp_enter (f := 17) (args := #[.int .i64 f]) (by simp [execOp, Act.eval, s50, go_sem]) ?_)
        refine (HAI.out W).mono ?_
        rintro e w' ⟨rfl, hb'⟩
        exact ⟨_, rfl, rfl, Q1.call hB hb'⟩
      · have hg : A.tmps[49]?.getD undef = .bool false := hA.on 19 49 (by kernel_rfl) (by kernel_rfl)
        have s9 : A.tmps[9]?.getD undef = .int .i64 f := (hA.st 9 (by kernel_rfl)).trans rfl
        exact wpOp_want rfl rfl (by kernel_rfl) hg (wp_value (v := .int .i64 f) (W' := W) (by simp [execOp, Act.eval, s9, go_sem]) ⟨rfl, hB⟩)
      · have hg : A.tmps[49]?.getD undef = .bool false := hA.on 19 49 (by kernel_rfl) (by kernel_rfl)
        have s52 : A.tmps[52]?.getD undef = .int .i64 f := hA.on 22 52 (by kernel_rfl) (by kernel_rfl)
        refine wpOp_want rfl rfl (by kernel_rfl) hg (wp_enter (f := 18) (args := #[.int .i64 f]) (by simp [execOp, Act.eval, s52, go_sem]) ?_)
        refine (HAS.out W).mono ?_
        rintro e w' ⟨rfl, hb'⟩
        exact ⟨_, rfl, rfl, Q1.call hB hb'⟩
      · have hg : A.tmps[49]?.getD undef = .bool false := hA.on 19 49 (by kernel_rfl) (by kernel_rfl)
        have s51 : A.tmps[51]?.getD undef = valV af := hA.on 21 51 (by kernel_rfl) (by kernel_rfl)
        have s53 : A.tmps[53]?.getD undef = valV af := hA.on 23 53 (by kernel_rfl) (by kernel_rfl)
        exact wpOp_want rfl rfl (by kernel_rfl) hg (wp_value (v := .bool false) (W' := W) (by simp [execOp, Act.eval, s51, s53, go_sem, guardV, neqV, same_self]) ⟨rfl, hB⟩)
      · have s49 : A.tmps[49]?.getD undef = .bool false := hA.on 19 49 (by kernel_rfl) (by kernel_rfl)
        have s54 : A.tmps[54]?.getD undef = .bool false := hA.on 24 54 (by kernel_rfl) (by kernel_rfl)
        exact wpOp_of rfl rfl (wp_value (v := .bool false) (W' := W) (by simp [execOp, Act.eval, s49, s54, go_sem]) ⟨rfl, hB⟩)
      · have s55 : A.tmps[55]?.getD undef = .bool false := hA.on 25 55 (by kernel_rfl) (by kernel_rfl)
        exact wpOp_of rfl rfl (wp_value (v := .bool false) (W' := W) (by simp [execOp, Act.eval, s55, go_sem]) ⟨rfl, hB⟩)
      · have hg : A.tmps[56]?.getD undef = .bool false := hA.on 26 56 (by kernel_rfl) (by kernel_rfl)
        have s10 : A.tmps[10]?.getD undef = .int .i64 h := (hA.st 10 (by kernel_rfl)).trans rfl
        exact wpOp_want rfl rfl (by kernel_rfl) hg (wp_value (v := .int .i64 h) (W' := W) (by simp [execOp, Act.eval, s10, go_sem]) ⟨rfl, hB⟩)
      · have hg : A.tmps[56]?.getD undef = .bool false := hA.on 26 56 (by kernel_rfl) (by kernel_rfl)
        have s57 : A.tmps[57]?.getD undef = .int .i64 h := hA.on 27 57 (by kernel_rfl) (by kernel_rfl)
        refine wpOp_want rfl rfl (by kernel_rfl) hg (wp_enter (f := 19) (args := #[.int .i64 h]) (by simp [execOp, Act.eval, s57, go_sem]) ?_)
        refine (HHI.out W).mono ?_
        rintro e w' ⟨rfl, hb'⟩
        exact ⟨_, rfl, rfl, Q1.call hB hb'⟩
      · have hg : A.tmps[56]?.getD undef = .bool false := hA.on 26 56 (by kernel_rfl) (by kernel_rfl)
        have s10 : A.tmps[10]?.getD undef = .int .i64 h := (hA.st 10 (by kernel_rfl)).trans rfl
        exact wpOp_want rfl rfl (by kernel_rfl) hg (wp_value (v := .int .i64 h) (W' := W) (by simp [execOp, Act.eval, s10, go_sem]) ⟨rfl, hB⟩)
      · have hg : A.tmps[56]?.getD undef = .bool false := hA.on 26 56 (by kernel_rfl) (by kernel_rfl)
        have s59 : A.tmps[59]?.getD undef = .int .i64 h := hA.on 29 59 (by kernel_rfl) (by kernel_rfl)
        refine wpOp_want rfl rfl (by kernel_rfl) hg (wp_enter (f := 20) (args := #[.int .i64 h]) (by simp [execOp, Act.eval, s59, go_sem]) ?_)
        refine (HHS.out W).mono ?_
        rintro e w' ⟨rfl, rfl⟩
        exact ⟨_, rfl, rfl, hB⟩
      · have hg : A.tmps[56]?.getD undef = .bool false := hA.on 26 56 (by kernel_rfl) (by kernel_rfl)
        have s58 : A.tmps[58]?.getD undef = .bool hd := hA.on 28 58 (by kernel_rfl) (by kernel_rfl)
        have s60 : A.tmps[60]?.getD undef = .bool hd := hA.on 30 60 (by kernel_rfl) (by kernel_rfl)
        exact wpOp_want rfl rfl (by kernel_rfl) hg (wp_value (v := .bool false) (W' := W) (by simp [execOp, Act.eval, s58, s60, go_sem]) ⟨rfl, hB⟩)
      · have s56 : A.tmps[56]?.getD undef = .bool false := hA.on 26 56 (by kernel_rfl) (by kernel_rfl)
        have s61 : A.tmps[61]?.getD undef = .bool false := hA.on 31 61 (by kernel_rfl) (by kernel_rfl)
        exact wpOp_of rfl rfl (wp_value (v := .bool false) (W' := W) (by simp [execOp, Act.eval, s56, s61, go_sem]) ⟨rfl, hB⟩)
    intro wR hR
    simp only [RI.mergeL, List.getElem?_cons_zero, List.getElem?_cons_succ, Option.getD_some]
    clear HLS HNS HFS HAI HAS HHI HHS hQ
    have hQ := hR
    clear hR eA eH hh hf
    obtain ⟨q0, q1, q2, q3, q4, q5, q6⟩ := cells_open hQ.x
    have HVS := Lib.hid (fun (h : FT = true) w' => (P8.fits_ok (eF.trans h)) ▸ ValueOk_spec x w' (by omega))
    unfold valV at HFI HVS
    clear eF
    by_cases hN : 0 ≤ N
    · have hNs : nameOf N = s := by rw [← eN] at hN ⊢; exact P8.name_look hN
      have HNI := Lib.hid (fun w' => hNs ▸ NameOf_impl N w' (by have := P8.look_bd s; rw [eN] at this; omega))
      have hss : (s != s) = false := by simp
      have hss2 : (s == s) = true := by simp
      clear hNs eN
      by_cases hT : isLook lk = true
      · have hTl : lookOf T = lk := eT ▸ P8.look_name hT
        have HLI := Lib.hid (fun w' => hTl ▸ LookOf_impl T w' (by have := P8.name_len lk; rw [eT] at this; omega))
        have hne : T ≠ [] := fun e => by
          have := P8.name_none.1 (eT.trans e)
          rw [hT] at this; cases this
        have hTe : (T == []) = false := str_other hne
        have hTn : (T != []) = true := by simpa using hne
        have hlk2 : (lk != lk) = false := by simp
        obtain ⟨af, eaf⟩ : ∃ af, atFirst lk = af := ⟨_, rfl⟩
        have hafl : af.w.length ≤ 100 := eaf ▸ P8.first_len lk
        have HAI2 := Lib.hid (fun w' => eaf ▸ AtFirst_impl lk w' (HR lk hlk))
        have hff : fits lk af = true := eaf ▸ P8.first_fits hT
        have HFI2 := Lib.hid (fun w' (hq : Below w.heap.size w w') => hff ▸ Fits_impl lk af (HR lk hlk) (by omega) w' (HP.out.on hq))
        unfold valV at HAI2 HFI2
        clear hTl hne hT eT eaf hff hlk hl HR
        cases FT
        all_goals
          go_wp2_with (first | (go_at_call 9; refine (HNI.out _).mono ?_; rintro e w' ⟨rfl, hb'⟩; replace hQ := Q1.call hQ hb'; clear q0 q1 q2 q3 q4 q5 q6 hb'; obtain ⟨q0, q1, q2, q3, q4, q5, q6⟩ := cells_open hQ.x) | (go_at_call 8; refine (HLI.out _).mono ?_; rintro e w' ⟨rfl, hb'⟩; replace hQ := Q1.call hQ hb'; clear q0 q1 q2 q3 q4 q5 q6 hb'; obtain ⟨q0, q1, q2, q3, q4, q5, q6⟩ := cells_open hQ.x) | (go_at_call 15; have hz := hmark; refine (HFI2.out _ hQ.b).mono ?_; rintro e w' ⟨rfl, hb'⟩; replace hQ := Q1.call hQ hb'; clear q0 q1 q2 q3 q4 q5 q6 hb'; obtain ⟨q0, q1, q2, q3, q4, q5, q6⟩ := cells_open hQ.x) | (go_at_call 15; refine (HFI.out _ hQ.b).mono ?_; rintro e w' ⟨rfl, hb'⟩; replace hQ := Q1.call hQ hb'; clear q0 q1 q2 q3 q4 q5 q6 hb'; obtain ⟨q0, q1, q2, q3, q4, q5, q6⟩ := cells_open hQ.x) | (go_at_call 21; refine (HVS.out (by simp) _).mono ?_; rintro e w' ⟨rfl, hb'⟩; replace hQ := Q1.call hQ hb'; clear q0 q1 q2 q3 q4 q5 q6 hb'; obtain ⟨q0, q1, q2, q3, q4, q5, q6⟩ := cells_open hQ.x) | (go_at_call 17; refine (HAI2.out _).mono ?_; rintro e w' ⟨rfl, hb'⟩; replace hQ := Q1.call hQ hb'; clear q0 q1 q2 q3 q4 q5 q6 hb'; obtain ⟨q0, q1, q2, q3, q4, q5, q6⟩ := cells_open hQ.x; have hmark : True := trivial))
          go_ret
          exact ⟨rfl, hQ.b⟩
      · have hTf : isLook lk = false := by simpa using hT
        have hno : ¬ (0 ≤ lk ∧ lk ≤ 5) := fun h0 => hT (P8.look_iff.2 h0)
        obtain rfl : T = [] := by rw [← eT]; exact P8.name_none.2 hTf
        have hTn : (([] : List UInt8) != []) = false := rfl
        clear hT hTf eT hlk hl HR
        by_cases hlt : lk < 0
        · clear hno
          cases FT
          all_goals
            go_wp2_with (first | (go_at_call 9; refine (HNI.out _).mono ?_; rintro e w' ⟨rfl, hb'⟩; replace hQ := Q1.call hQ hb'; clear q0 q1 q2 q3 q4 q5 q6 hb'; obtain ⟨q0, q1, q2, q3, q4, q5, q6⟩ := cells_open hQ.x) | (go_at_call 8; refine (HLI.out _).mono ?_; rintro e w' ⟨rfl, hb'⟩; replace hQ := Q1.call hQ hb'; clear q0 q1 q2 q3 q4 q5 q6 hb'; obtain ⟨q0, q1, q2, q3, q4, q5, q6⟩ := cells_open hQ.x) | (go_at_call 15; have hz := hmark; refine (HFI2.out _ hQ.b).mono ?_; rintro e w' ⟨rfl, hb'⟩; replace hQ := Q1.call hQ hb'; clear q0 q1 q2 q3 q4 q5 q6 hb'; obtain ⟨q0, q1, q2, q3, q4, q5, q6⟩ := cells_open hQ.x) | (go_at_call 15; refine (HFI.out _ hQ.b).mono ?_; rintro e w' ⟨rfl, hb'⟩; replace hQ := Q1.call hQ hb'; clear q0 q1 q2 q3 q4 q5 q6 hb'; obtain ⟨q0, q1, q2, q3, q4, q5, q6⟩ := cells_open hQ.x) | (go_at_call 21; refine (HVS.out (by simp) _).mono ?_; rintro e w' ⟨rfl, hb'⟩; replace hQ := Q1.call hQ hb'; clear q0 q1 q2 q3 q4 q5 q6 hb'; obtain ⟨q0, q1, q2, q3, q4, q5, q6⟩ := cells_open hQ.x) | (go_at_call 17; refine (HAI2.out _).mono ?_; rintro e w' ⟨rfl, hb'⟩; replace hQ := Q1.call hQ hb'; clear q0 q1 q2 q3 q4 q5 q6 hb'; obtain ⟨q0, q1, q2, q3, q4, q5, q6⟩ := cells_open hQ.x; have hmark : True := trivial))
            go_ret
            exact ⟨rfl, hQ.b⟩
        · have hgt : 5 < lk := by omega
          clear hno
          cases FT
          all_goals
            go_wp2_with (first | (go_at_call 9; refine (HNI.out _).mono ?_; rintro e w' ⟨rfl, hb'⟩; replace hQ := Q1.call hQ hb'; clear q0 q1 q2 q3 q4 q5 q6 hb'; obtain ⟨q0, q1, q2, q3, q4, q5, q6⟩ := cells_open hQ.x) | (go_at_call 8; refine (HLI.out _).mono ?_; rintro e w' ⟨rfl, hb'⟩; replace hQ := Q1.call hQ hb'; clear q0 q1 q2 q3 q4 q5 q6 hb'; obtain ⟨q0, q1, q2, q3, q4, q5, q6⟩ := cells_open hQ.x) | (go_at_call 15; have hz := hmark; refine (HFI2.out _ hQ.b).mono ?_; rintro e w' ⟨rfl, hb'⟩; replace hQ := Q1.call hQ hb'; clear q0 q1 q2 q3 q4 q5 q6 hb'; obtain ⟨q0, q1, q2, q3, q4, q5, q6⟩ := cells_open hQ.x) | (go_at_call 15; refine (HFI.out _ hQ.b).mono ?_; rintro e w' ⟨rfl, hb'⟩; replace hQ := Q1.call hQ hb'; clear q0 q1 q2 q3 q4 q5 q6 hb'; obtain ⟨q0, q1, q2, q3, q4, q5, q6⟩ := cells_open hQ.x) | (go_at_call 21; refine (HVS.out (by simp) _).mono ?_; rintro e w' ⟨rfl, hb'⟩; replace hQ := Q1.call hQ hb'; clear q0 q1 q2 q3 q4 q5 q6 hb'; obtain ⟨q0, q1, q2, q3, q4, q5, q6⟩ := cells_open hQ.x) | (go_at_call 17; refine (HAI2.out _).mono ?_; rintro e w' ⟨rfl, hb'⟩; replace hQ := Q1.call hQ hb'; clear q0 q1 q2 q3 q4 q5 q6 hb'; obtain ⟨q0, q1, q2, q3, q4, q5, q6⟩ := cells_open hQ.x; have hmark : True := trivial))
            go_ret
            exact ⟨rfl, hQ.b⟩
    · clear eN
      by_cases hT : isLook lk = true
      · have hTl : lookOf T = lk := eT ▸ P8.look_name hT
        have HLI := Lib.hid (fun w' => hTl ▸ LookOf_impl T w' (by have := P8.name_len lk; rw [eT] at this; omega))
        have hne : T ≠ [] := fun e => by
          have := P8.name_none.1 (eT.trans e)
          rw [hT] at this; cases this
        have hTe : (T == []) = false := str_other hne
        have hTn : (T != []) = true := by simpa using hne
        have hlk2 : (lk != lk) = false := by simp
        obtain ⟨af, eaf⟩ : ∃ af, atFirst lk = af := ⟨_, rfl⟩
        have hafl : af.w.length ≤ 100 := eaf ▸ P8.first_len lk
        have HAI2 := Lib.hid (fun w' => eaf ▸ AtFirst_impl lk w' (HR lk hlk))
        have hff : fits lk af = true := eaf ▸ P8.first_fits hT
        have HFI2 := Lib.hid (fun w' (hq : Below w.heap.size w w') => hff ▸ Fits_impl lk af (HR lk hlk) (by omega) w' (HP.out.on hq))
        unfold valV at HAI2 HFI2
        clear hTl hne hT eT eaf hff hlk hl HR
        cases FT
        all_goals
          go_wp2_with (first | (go_at_call 9; refine (HNI.out _).mono ?_; rintro e w' ⟨rfl, hb'⟩; replace hQ := Q1.call hQ hb'; clear q0 q1 q2 q3 q4 q5 q6 hb'; obtain ⟨q0, q1, q2, q3, q4, q5, q6⟩ := cells_open hQ.x) | (go_at_call 8; refine (HLI.out _).mono ?_; rintro e w' ⟨rfl, hb'⟩; replace hQ := Q1.call hQ hb'; clear q0 q1 q2 q3 q4 q5 q6 hb'; obtain ⟨q0, q1, q2, q3, q4, q5, q6⟩ := cells_open hQ.x) | (go_at_call 15; have hz := hmark; refine (HFI2.out _ hQ.b).mono ?_; rintro e w' ⟨rfl, hb'⟩; replace hQ := Q1.call hQ hb'; clear q0 q1 q2 q3 q4 q5 q6 hb'; obtain ⟨q0, q1, q2, q3, q4, q5, q6⟩ := cells_open hQ.x) | (go_at_call 15; refine (HFI.out _ hQ.b).mono ?_; rintro e w' ⟨rfl, hb'⟩; replace hQ := Q1.call hQ hb'; clear q0 q1 q2 q3 q4 q5 q6 hb'; obtain ⟨q0, q1, q2, q3, q4, q5, q6⟩ := cells_open hQ.x) | (go_at_call 21; refine (HVS.out (by simp) _).mono ?_; rintro e w' ⟨rfl, hb'⟩; replace hQ := Q1.call hQ hb'; clear q0 q1 q2 q3 q4 q5 q6 hb'; obtain ⟨q0, q1, q2, q3, q4, q5, q6⟩ := cells_open hQ.x) | (go_at_call 17; refine (HAI2.out _).mono ?_; rintro e w' ⟨rfl, hb'⟩; replace hQ := Q1.call hQ hb'; clear q0 q1 q2 q3 q4 q5 q6 hb'; obtain ⟨q0, q1, q2, q3, q4, q5, q6⟩ := cells_open hQ.x; have hmark : True := trivial))
          go_ret
          exact ⟨rfl, hQ.b⟩
      · have hTf : isLook lk = false := by simpa using hT
        have hno : ¬ (0 ≤ lk ∧ lk ≤ 5) := fun h0 => hT (P8.look_iff.2 h0)
        obtain rfl : T = [] := by rw [← eT]; exact P8.name_none.2 hTf
        have hTn : (([] : List UInt8) != []) = false := rfl
        clear hT hTf eT hlk hl HR
        by_cases hlt : lk < 0
        · clear hno
          cases FT
          all_goals
            go_wp2_with (first | (go_at_call 9; refine (HNI.out _).mono ?_; rintro e w' ⟨rfl, hb'⟩; replace hQ := Q1.call hQ hb'; clear q0 q1 q2 q3 q4 q5 q6 hb'; obtain ⟨q0, q1, q2, q3, q4, q5, q6⟩ := cells_open hQ.x) | (go_at_call 8; refine (HLI.out _).mono ?_; rintro e w' ⟨rfl, hb'⟩; replace hQ := Q1.call hQ hb'; clear q0 q1 q2 q3 q4 q5 q6 hb'; obtain ⟨q0, q1, q2, q3, q4, q5, q6⟩ := cells_open hQ.x) | (go_at_call 15; have hz := hmark; refine (HFI2.out _ hQ.b).mono ?_; rintro e w' ⟨rfl, hb'⟩; replace hQ := Q1.call hQ hb'; clear q0 q1 q2 q3 q4 q5 q6 hb'; obtain ⟨q0, q1, q2, q3, q4, q5, q6⟩ := cells_open hQ.x) | (go_at_call 15; refine (HFI.out _ hQ.b).mono ?_; rintro e w' ⟨rfl, hb'⟩; replace hQ := Q1.call hQ hb'; clear q0 q1 q2 q3 q4 q5 q6 hb'; obtain ⟨q0, q1, q2, q3, q4, q5, q6⟩ := cells_open hQ.x) | (go_at_call 21; refine (HVS.out (by simp) _).mono ?_; rintro e w' ⟨rfl, hb'⟩; replace hQ := Q1.call hQ hb'; clear q0 q1 q2 q3 q4 q5 q6 hb'; obtain ⟨q0, q1, q2, q3, q4, q5, q6⟩ := cells_open hQ.x) | (go_at_call 17; refine (HAI2.out _).mono ?_; rintro e w' ⟨rfl, hb'⟩; replace hQ := Q1.call hQ hb'; clear q0 q1 q2 q3 q4 q5 q6 hb'; obtain ⟨q0, q1, q2, q3, q4, q5, q6⟩ := cells_open hQ.x; have hmark : True := trivial))
            go_ret
            exact ⟨rfl, hQ.b⟩
        · have hgt : 5 < lk := by omega
          clear hno
          cases FT
          all_goals
            go_wp2_with (first | (go_at_call 9; refine (HNI.out _).mono ?_; rintro e w' ⟨rfl, hb'⟩; replace hQ := Q1.call hQ hb'; clear q0 q1 q2 q3 q4 q5 q6 hb'; obtain ⟨q0, q1, q2, q3, q4, q5, q6⟩ := cells_open hQ.x) | (go_at_call 8; refine (HLI.out _).mono ?_; rintro e w' ⟨rfl, hb'⟩; replace hQ := Q1.call hQ hb'; clear q0 q1 q2 q3 q4 q5 q6 hb'; obtain ⟨q0, q1, q2, q3, q4, q5, q6⟩ := cells_open hQ.x) | (go_at_call 15; have hz := hmark; refine (HFI2.out _ hQ.b).mono ?_; rintro e w' ⟨rfl, hb'⟩; replace hQ := Q1.call hQ hb'; clear q0 q1 q2 q3 q4 q5 q6 hb'; obtain ⟨q0, q1, q2, q3, q4, q5, q6⟩ := cells_open hQ.x) | (go_at_call 15; refine (HFI.out _ hQ.b).mono ?_; rintro e w' ⟨rfl, hb'⟩; replace hQ := Q1.call hQ hb'; clear q0 q1 q2 q3 q4 q5 q6 hb'; obtain ⟨q0, q1, q2, q3, q4, q5, q6⟩ := cells_open hQ.x) | (go_at_call 21; refine (HVS.out (by simp) _).mono ?_; rintro e w' ⟨rfl, hb'⟩; replace hQ := Q1.call hQ hb'; clear q0 q1 q2 q3 q4 q5 q6 hb'; obtain ⟨q0, q1, q2, q3, q4, q5, q6⟩ := cells_open hQ.x) | (go_at_call 17; refine (HAI2.out _).mono ?_; rintro e w' ⟨rfl, hb'⟩; replace hQ := Q1.call hQ hb'; clear q0 q1 q2 q3 q4 q5 q6 hb'; obtain ⟨q0, q1, q2, q3, q4, q5, q6⟩ := cells_open hQ.x; have hmark : True := trivial))
            go_ret
            exact ⟨rfl, hQ.b⟩

set_option maxRecDepth 100000 in
theorem lifted (os : Os) (started : os.Started) (H : Type) (enc : TypeId × Value → H) :
    ReturnsInHanded {} Tryz.checked os 3 .any (fun w args => (Rows.fnLooksSpec.pre enc Tryz.prog Tryz.f3 Rows.fnLooksRow.domain false w args ∧ laidMetH Tryz.prog Rows.fnLooksRow.laid w) ∧ sizedMet enc Tryz.prog Tryz.f3 (OpenSpec.ofChange Rows.fnLooksSpec) false w args)
      (Rows.fnLooksSpec.post enc Tryz.prog Tryz.f3 false true false false) := by
  refine returnsInHanded_of_calls (C := Tryz.checked) own started (by kernel_rfl)
    (ChangeSpec.witness_shaped (enc := enc) (C := Tryz.checked) (os := os) (X := fun w _ => laidMetH Tryz.prog Rows.fnLooksRow.laid w) false (World.laidAll Tryz.prog os Rows.fnLooksRow.laid) #[.slice none 0 0] 8 (World.laidAll_os _ _ _)
      (World.shaped_of_ZipB (by kernel_rfl) (by kernel_rfl)) (by kernel_rfl) (by kernel_rfl) (by kernel_rfl)
      (by rw [MakeChecks.laidMetH_plain _ _ _ (by kernel_rfl)]; exact laidMet_laidAll _ (by kernel_rfl) (by kernel_rfl))) ?_
  intro w0 tape i _ hsh0 _ hok hpre _
  obtain ⟨_, _, _, fn', hfn', _, _, _, _, hval00⟩ := hok
  obtain rfl : fn' = Tryz.f3 := Option.some.inj (hfn'.symm.trans Tryz.func3)
  obtain ⟨⟨⟨ds, gs, before, hw, _⟩, hx⟩, _⟩ := hpre
  have hW0 := DataW.Whole.of_heap (w' := w0.forCall tape i) (by rfl) hw
  have hL0 : laidMetH Tryz.prog Rows.fnLooksRow.laid (w0.forCall tape i) := hx.of_heap (by rfl)
  suffices hgo : ∀ (W : World) (base : Nat) (args : Array Value), (∀ (j : Nat) t v, Tryz.f3.params[j]? = some t → args[j]? = some v → Value.okWide Tryz.prog W .any base t v) →
      DataW.Whole enc Tryz.prog Tryz.f3.params.toList Rows.fnLooksSpec.vars false W args.toList ds gs before → laidMetH Tryz.prog Rows.fnLooksRow.laid W → W.ShapedOpen Tryz.prog →
      Calls Tryz.prog 3 args W fun e W' => ∃ v, e = .returned v ∧ Rows.fnLooksSpec.post enc Tryz.prog Tryz.f3 false true false false W args v W' by
    refine (hgo _ _ _ hval00 hW0 hL0 hsh0).mono fun e W' ⟨v, he, hp⟩ => ?_
    subst he
    exact ChangeSpec.post_blind hp
  clear hsh0 hval00 hW0 hL0 hx hw hfn'
  intro W base args hval0 hW hL hsh
  have hval : ∀ (j : Nat) t v, Tryz.f3.params[j]? = some t → args[j]? = some v → Value.okWide Tryz.prog W .any base t v := hval0
  have hW' := hW
  obtain ⟨p, q, hA0, hV, rfl, hfz, hnd⟩ := hW
  have hA : DataW.TrodAll enc Tryz.prog W 0 (fun _ => true) true Tryz.f3.params.toList args.toList ds p := hA0
  rw [Tryz.params3] at hA hval
  obtain ⟨v0, vs0, d0, ds0, p0, q0, hargs, rfl, rfl, h0, r0⟩ := trodAll_cons hA
  obtain ⟨rfl, rfl, rfl⟩ := trodAll_nil r0
  obtain rfl : args = #[v0] := by cases args; simp_all
  obtain ⟨rfl, rfl⟩ := trodVars_none hV
  have k0 := h0
  have lt0 : ∀ x ∈ p0, x.block < W.heap.size := by obtain ⟨m, hm⟩ := k0; exact DataW.trod_lt m _ _ _ hm
  obtain ⟨a0, len0, cap0, rfl, w0⟩ := open_bytes (hval 0 22 v0 rfl rfl) h0
  refine (walk a0 len0 cap0 W w0 (B8.laid_fnLooks hL)).mono fun e W' ⟨he, bel⟩ => ?_
  subst he
  exact ⟨_, rfl, _, _, _, [], _, [], hW', trodAll_mk1 (shut_bool Tryz.underlying4 _), (trodAll_cons_mk (Below.trod laidOut (by kernel_rfl) (of_decide_eq_true (by kernel_rfl)) k0 bel lt0) trodAll_mk0), rfl, bel.frame _, fun h => by cases h⟩

theorem over : Rows.fnLooksRow.holds Tryz.pinned (OpenSpec.ofChange Rows.fnLooksSpec) :=
  OpenClaim.holds_of_wide 3 Tryz.f3 rfl rfl rfl rfl rfl rfl rfl ⟨rfl, rfl, rfl, rfl, rfl⟩ rfl rfl rfl rfl rfl (by kernel_rfl) Tryz.func3 (by kernel_rfl)
    (of_decide_eq_true (by kernel_rfl)) (by unfold Func.isWrapper; first | (rw [if_pos (by decide +kernel)]; kernel_rfl) | (rw [if_neg (by decide +kernel)]; exact ⟨rfl, rfl⟩))
    (fun os started H enc _ => lifted os started H enc)

theorem proved : Rows.FnLooksCardSaid :=
  Claim7.holds_tied_plain_at .later [] [.data, .data, .data, .sentinel, .sentinel] true (true, "247807357f3734b21666d2679388be581bbad39ecec2917f0fa20968e0b04bb7") true over (fun _ h => by cases h) (by kernel_rfl) (fun _ h => by cases h) fnLooks_row_tie rfl ⟨rfl, rfl⟩ (by kernel_rfl) rfl
    (fun f fn hf hfn => by
      obtain rfl : f = 3 := Option.some.inj ((show Tryz.prog.funcNamed "loop.example/g00521/laws.FnLooks" = some 3 by kernel_rfl).symm.trans hf) |>.symm
      obtain rfl : fn = Tryz.f3 := (Option.some.inj (Tryz.func3.symm.trans hfn)).symm
      exact ⟨by kernel_rfl, fun j t ht => by
        have hm : t ∈ Tryz.f3.params.toList := by simpa using Array.mem_of_getElem? ht
        have hall : (Tryz.f3.params.toList.all fun u => !Tryz.prog.wantsStandIn u) = true := by kernel_rfl
        exact (show Tryz.prog.wantsStandIn t = false by simpa using List.all_eq_true.1 hall t hm)⟩)
    (by kernel_rfl)
#print axioms proved
end Go.Proofs.YtjgfbbjecbeipaaGreatDoor.fnLooks
