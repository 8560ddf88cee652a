/- Proved: for every two Values and every int64, FnExactMixed answers true: the program's Mixed answers as the reference's. No condition. -/
import Derived.Test.YtkeofllcccgbbaaGreatDoorBase6n
import Derived.Test.YtkeofllcccgbbaaGreatDoorBase7n
import Derived.Test.YtkeofllcccgbbaaGreatDoorImp7e
import Derived.Test.YtkeofllcccgbbaaGreatDoorMade7
import Derived.Test.YtkeofllcccgbbaaGreatDoorDoor7
import Derived.Deep.RegionHeld3
import Derived.Test.YtkeofllcccgbbaaGreatDoorRows
import Derived.Test.YtkeofllcccgbbaaGreatDoorCards
import Derived.Test.YtkeofllcccgbbaaGreatDoorTie
import Derived.WalkKit
import Derived.ProofKit
import Derived.OpenShut
import Derived.ShutString
import Derived.ChangeOld
import Derived.Below
import Derived.OpenVars
import Derived.ChangeVars
import Derived.Handed
import Derived.Lay
import Derived.LaidLaws
import Derived.MakeChecks
import Derived.SevenTiedAt
import Derived.Stop.Joined
namespace Go.Proofs.YtkeofllcccgbbaaGreatDoor.fnExactMixed
open Go.ChangeShapes Go.WideShapes Go.ChangeAt Go.RowKit
open Go.ChangeMaps (open_string shut_string)
set_option linter.unusedVariables false

theorem own : ownKnob Tryz.prog.godebug = none := by kernel_rfl
theorem laidOut : laidOutB Tryz.prog = true := by kernel_rfl

open Go.Proofs.YtkeofllcccgbbaaGreatDoor.P1 Go.Proofs.YtkeofllcccgbbaaGreatDoor.B1 Go.Proofs.YtkeofllcccgbbaaGreatDoor.B2 Go.Proofs.YtkeofllcccgbbaaGreatDoor.T1 Go.Proofs.YtkeofllcccgbbaaGreatDoor.BT Go.Proofs.YtkeofllcccgbbaaGreatDoor.P5 Go.Proofs.YtkeofllcccgbbaaGreatDoor.P6 Go.Proofs.YtkeofllcccgbbaaGreatDoor.B5 Go.Proofs.YtkeofllcccgbbaaGreatDoor.B6 Go.Proofs.YtkeofllcccgbbaaGreatDoor.S7 Go.Proofs.YtkeofllcccgbbaaGreatDoor.V6 Go.Proofs.YtkeofllcccgbbaaGreatDoor.V7 Go.Proofs.YtkeofllcccgbbaaGreatDoor.B7
theorem toValue_g (k n r g b c : Int) (t : List UInt8) (w : World) : Calls Tryz.prog 19 #[.agg #[.int .i64 k, .int .i64 n, .int .i64 r, .int .i64 g, .int .i64 b, .int .i64 c, .string ⟨t.toArray⟩]] w (Ans (.agg #[.int .i64 k, .int .i64 n, .int .i64 r, .int .i64 g, .int .i64 b, .int .i64 c, .string ⟨t.toArray⟩]) w) := toValue_laws ⟨k, n, r, g, b, c, t⟩ w

set_option maxRecDepth 20000 in
set_option maxHeartbeats 60000000 in
theorem walk (x y : Va) (p : Int) (hl : x.w.length ≤ 9223372036854775807) (hm : y.w.length ≤ 9223372036854775807) (w : World) (L : Pow w) :
    Calls Tryz.prog 5 #[valV x, valV y, .int .i64 p] w (Ans (.bool true) w) := by
  have HZ := Lib.hid (fun w' => szValue_laws x 1048576 w' (by decide) (by decide) hl)
  have HT := Lib.hid toValue_g
  obtain ⟨c0, c1, c2, c3, c4, c5, c6, d0, d1, d2, d3, d4, d5, d6, hlt, hld, hB⟩ := held77_new w (.int .i64 x.k) (.int .i64 x.n) (.int .i64 x.r) (.int .i64 x.g) (.int .i64 x.b) (.int .i64 x.c) (.string ⟨x.w.toArray⟩) (.int .i64 y.k) (.int .i64 y.n) (.int .i64 y.r) (.int .i64 y.g) (.int .i64 y.b) (.int .i64 y.c) (.string ⟨y.w.toArray⟩) 35
  by_cases hbig : (x.w.length : Int) ≤ 1048576
  · rw [if_pos hbig] at HZ
    have hz0 : ¬ (1048576 - (x.w.length : Int)) < 0 := by omega
    obtain ⟨z, ez⟩ : ∃ z, 1048576 - (x.w.length : Int) = z := ⟨_, rfl⟩
    rw [ez] at HZ hz0
    have HY := Lib.hid (fun w' => szValue_laws y z w' (by omega) (by omega) hm)
    by_cases hbig2 : (y.w.length : Int) ≤ z
    · rw [if_pos hbig2] at HY
      have hy0 : ¬ (z - (y.w.length : Int)) < 0 := by omega
      have HS := Lib.hid (fun w' => Mixed_spec x y p (by omega) (by omega) w')
      have HI := Lib.hid (fun w' (hb : Below w.heap.size w w') => Mixed_impl x y p (by omega) (by omega) w' (L.on hb))
      have HQ := Lib.hid (fun w' => eqValue_self (P7.mixed x y p) w')
      generalize P7.mixed x y p = zv at HS HI HQ
      generalize z - (y.w.length : Int) = z2 at HY hy0
      obtain ⟨k, n, r, g, b, c, t⟩ := x
      obtain ⟨k', n', r', g', b', c', t'⟩ := y
      obtain ⟨zk, zn, zr, zg, zb, zc, zt⟩ := zv
      unfold valV at HZ HY HS HI HQ ⊢
      dsimp only at HZ HY HS HI HQ c0 c1 c2 c3 c4 c5 c6 d0 d1 d2 d3 d4 d5 d6 hlt hld hB ⊢
      clear hbig hbig2 hl hm L ez
      have hQa := Q7.two w [.int .i64 k, .int .i64 n, .int .i64 r, .int .i64 g, .int .i64 b, .int .i64 c, .string ⟨t.toArray⟩] [.int .i64 k', .int .i64 n', .int .i64 r', .int .i64 g', .int .i64 b', .int .i64 c', .string ⟨t'.toArray⟩] 35
      go_enter Tryz.func5, Tryz.ntmps5
      go_wp2_with fail
      refine (HZ.out _).mono ?_
      rintro e w1 ⟨rfl, g1⟩
      have hQb := hQa.call g1
      replace hB := held77_call g1 c0 c1 c2 c3 c4 c5 c6 d0 d1 d2 d3 d4 d5 d6 hlt hld hB
      clear c0 c1 c2 c3 c4 c5 c6 d0 d1 d2 d3 d4 d5 d6 hlt hld g1
      obtain ⟨c0, c1, c2, c3, c4, c5, c6, d0, d1, d2, d3, d4, d5, d6, hlt, hld, hB⟩ := hB
      go_wp2_with fail
      refine (HY.out _).mono ?_
      rintro e w2 ⟨rfl, g2⟩
      have hqq := hQb.call g2
      clear hQa hQb
      replace hB := held77_call g2 c0 c1 c2 c3 c4 c5 c6 d0 d1 d2 d3 d4 d5 d6 hlt hld hB
      clear c0 c1 c2 c3 c4 c5 c6 d0 d1 d2 d3 d4 d5 d6 hlt hld g2
      obtain ⟨c0, c1, c2, c3, c4, c5, c6, d0, d1, d2, d3, d4, d5, d6, hlt, hld, hB⟩ := hB
      go_upto_region 8 with fail
      have hQ0 : Q7 w w2 w.heap.size (w.heap.size + 1) [.int .i64 k, .int .i64 n, .int .i64 r, .int .i64 g, .int .i64 b, .int .i64 c, .string ⟨t.toArray⟩] [.int .i64 k', .int .i64 n', .int .i64 r', .int .i64 g', .int .i64 b', .int .i64 c', .string ⟨t'.toArray⟩] := hqq
      clear hqq
      go_cut [8] (fun s8 wx => ∃ bq, s8 = .pointer (some ⟨bq, 0, none⟩) ∧ QZ w wx w.heap.size (w.heap.size + 1) bq [.int .i64 k, .int .i64 n, .int .i64 r, .int .i64 g, .int .i64 b, .int .i64 c, .string ⟨t.toArray⟩] [.int .i64 k', .int .i64 n', .int .i64 r', .int .i64 g', .int .i64 b', .int .i64 c', .string ⟨t'.toArray⟩] [.int .i64 zk, .int .i64 zn, .int .i64 zr, .int .i64 zg, .int .i64 zb, .int .i64 zc, .string ⟨zt.toArray⟩])
      case first =>
        have hQ := Q7.drew hQ0
        go_region_with (first | (go_at_call 19; refine (HT.out _ _ _ _ _ _ _ _).mono ?_; rintro e w' ⟨rfl, hb'⟩; (first | ((with_reducible have hR := QZ.call hR hb'); obtain ⟨q0, q1, q2, q3, q4, q5, q6, _⟩ := seven_cells hR.q.x; obtain ⟨u0', u1', u2', u3', u4', u5', u6', _⟩ := seven_cells hR.q.y; have l1 := hR.q.x.1; have l2 := hR.q.y.1; obtain ⟨_, _, _, _, _, _, _, f0, f1, f2, f3, f4, f5, f6⟩ := seven_cells hR.z) | ((with_reducible have hQ := Q7.call hQ hb'); obtain ⟨q0, q1, q2, q3, q4, q5, q6, _⟩ := seven_cells hQ.x; obtain ⟨u0', u1', u2', u3', u4', u5', u6', _⟩ := seven_cells hQ.y; have l1 := hQ.x.1; have l2 := hQ.y.1) | ((with_reducible have hR := QZ.call (QZ.new hQ [.int .i64 0, .int .i64 0, .int .i64 0, .int .i64 0, .int .i64 0, .int .i64 0, .string ⟨#[]⟩] 25) hb'); obtain ⟨q0, q1, q2, q3, q4, q5, q6, _⟩ := seven_cells hR.q.x; obtain ⟨u0', u1', u2', u3', u4', u5', u6', _⟩ := seven_cells hR.q.y; have l1 := hR.q.x.1; have l2 := hR.q.y.1; obtain ⟨_, _, _, _, _, _, _, f0, f1, f2, f3, f4, f5, f6⟩ := seven_cells hR.z) | ((with_reducible have hR := QZ.call (QZ.drew (QZ.new hQ0 [.int .i64 0, .int .i64 0, .int .i64 0, .int .i64 0, .int .i64 0, .int .i64 0, .string ⟨#[]⟩] 25)) hb'); obtain ⟨q0, q1, q2, q3, q4, q5, q6, _⟩ := seven_cells hR.q.x; obtain ⟨u0', u1', u2', u3', u4', u5', u6', _⟩ := seven_cells hR.q.y; have l1 := hR.q.x.1; have l2 := hR.q.y.1; obtain ⟨_, _, _, _, _, _, _, f0, f1, f2, f3, f4, f5, f6⟩ := seven_cells hR.z))) | (go_at_call 9; refine (HS.out _).mono ?_; rintro e wS ⟨rfl, hb'⟩; (first | ((with_reducible have hR := QZ.call hR hb'); obtain ⟨q0, q1, q2, q3, q4, q5, q6, _⟩ := seven_cells hR.q.x; obtain ⟨u0', u1', u2', u3', u4', u5', u6', _⟩ := seven_cells hR.q.y; have l1 := hR.q.x.1; have l2 := hR.q.y.1; obtain ⟨_, _, _, _, _, _, _, f0, f1, f2, f3, f4, f5, f6⟩ := seven_cells hR.z) | ((with_reducible have hQ := Q7.call hQ hb'); obtain ⟨q0, q1, q2, q3, q4, q5, q6, _⟩ := seven_cells hQ.x; obtain ⟨u0', u1', u2', u3', u4', u5', u6', _⟩ := seven_cells hQ.y; have l1 := hQ.x.1; have l2 := hQ.y.1) | ((with_reducible have hR := QZ.call (QZ.new hQ [.int .i64 0, .int .i64 0, .int .i64 0, .int .i64 0, .int .i64 0, .int .i64 0, .string ⟨#[]⟩] 25) hb'); obtain ⟨q0, q1, q2, q3, q4, q5, q6, _⟩ := seven_cells hR.q.x; obtain ⟨u0', u1', u2', u3', u4', u5', u6', _⟩ := seven_cells hR.q.y; have l1 := hR.q.x.1; have l2 := hR.q.y.1; obtain ⟨_, _, _, _, _, _, _, f0, f1, f2, f3, f4, f5, f6⟩ := seven_cells hR.z) | ((with_reducible have hR := QZ.call (QZ.drew (QZ.new hQ0 [.int .i64 0, .int .i64 0, .int .i64 0, .int .i64 0, .int .i64 0, .int .i64 0, .string ⟨#[]⟩] 25)) hb'); obtain ⟨q0, q1, q2, q3, q4, q5, q6, _⟩ := seven_cells hR.q.x; obtain ⟨u0', u1', u2', u3', u4', u5', u6', _⟩ := seven_cells hR.q.y; have l1 := hR.q.x.1; have l2 := hR.q.y.1; obtain ⟨_, _, _, _, _, _, _, f0, f1, f2, f3, f4, f5, f6⟩ := seven_cells hR.z))))
        all_goals
          go_wp2_with fail
          go_meet
          first
            | with_reducible exact ⟨_, rfl, QZ.new hQ [.int .i64 zk, .int .i64 zn, .int .i64 zr, .int .i64 zg, .int .i64 zb, .int .i64 zc, .string ⟨zt.toArray⟩] 25⟩
            | with_reducible exact ⟨_, rfl, QZ.chain hR (.int .i64 zk) (.int .i64 zn) (.int .i64 zr) (.int .i64 zg) (.int .i64 zb) (.int .i64 zc) (.string ⟨zt.toArray⟩)⟩
      case rest =>
        obtain ⟨bq, rfl, hC⟩ := hcut
        have HI := Lib.hid (fun w' (hb : Below wc.heap.size wc w') => HI.out w' (hC.q.b.trans (hb.mono hC.q.b.size)))
        have HCC := Lib.hid hC
        clear hQ0 c0 c1 c2 c3 c4 c5 c6 d0 d1 d2 d3 d4 d5 d6 hlt hld hB
        obtain ⟨c0, c1, c2, c3, c4, c5, c6, _⟩ := seven_cells hC.q.x
        obtain ⟨d0, d1, d2, d3, d4, d5, d6, _⟩ := seven_cells hC.q.y
        have hQ0 : Q7 wc wc w.heap.size (w.heap.size + 1) [.int .i64 k, .int .i64 n, .int .i64 r, .int .i64 g, .int .i64 b, .int .i64 c, .string ⟨t.toArray⟩] [.int .i64 k', .int .i64 n', .int .i64 r', .int .i64 g', .int .i64 b', .int .i64 c', .string ⟨t'.toArray⟩] := ⟨hC.q.x, hC.q.y, Below.refl _ _⟩
        have hlt := hC.q.x.1
        have hld := hC.q.y.1
        clear hC
        go_upto_region 9 with fail
        go_cut [9] (fun s9 wx => ∃ bg, s9 = .pointer (some ⟨bg, 0, none⟩) ∧ QZ wc wx w.heap.size (w.heap.size + 1) bg [.int .i64 k, .int .i64 n, .int .i64 r, .int .i64 g, .int .i64 b, .int .i64 c, .string ⟨t.toArray⟩] [.int .i64 k', .int .i64 n', .int .i64 r', .int .i64 g', .int .i64 b', .int .i64 c', .string ⟨t'.toArray⟩] [.int .i64 zk, .int .i64 zn, .int .i64 zr, .int .i64 zg, .int .i64 zb, .int .i64 zc, .string ⟨zt.toArray⟩])
        case first =>
          have hQ := Q7.drew hQ0
          go_region_with (first | (go_at_call 19; refine (HT.out _ _ _ _ _ _ _ _).mono ?_; rintro e w' ⟨rfl, hb'⟩; (first | ((with_reducible have hR := QZ.call hR hb'); obtain ⟨q0, q1, q2, q3, q4, q5, q6, _⟩ := seven_cells hR.q.x; obtain ⟨u0', u1', u2', u3', u4', u5', u6', _⟩ := seven_cells hR.q.y; have l1 := hR.q.x.1; have l2 := hR.q.y.1; obtain ⟨_, _, _, _, _, _, _, f0, f1, f2, f3, f4, f5, f6⟩ := seven_cells hR.z) | ((with_reducible have hQ := Q7.call hQ hb'); obtain ⟨q0, q1, q2, q3, q4, q5, q6, _⟩ := seven_cells hQ.x; obtain ⟨u0', u1', u2', u3', u4', u5', u6', _⟩ := seven_cells hQ.y; have l1 := hQ.x.1; have l2 := hQ.y.1) | ((with_reducible have hR := QZ.call (QZ.new hQ [.int .i64 0, .int .i64 0, .int .i64 0, .int .i64 0, .int .i64 0, .int .i64 0, .string ⟨#[]⟩] 25) hb'); obtain ⟨q0, q1, q2, q3, q4, q5, q6, _⟩ := seven_cells hR.q.x; obtain ⟨u0', u1', u2', u3', u4', u5', u6', _⟩ := seven_cells hR.q.y; have l1 := hR.q.x.1; have l2 := hR.q.y.1; obtain ⟨_, _, _, _, _, _, _, f0, f1, f2, f3, f4, f5, f6⟩ := seven_cells hR.z) | ((with_reducible have hR := QZ.call (QZ.drew (QZ.new hQ0 [.int .i64 0, .int .i64 0, .int .i64 0, .int .i64 0, .int .i64 0, .int .i64 0, .string ⟨#[]⟩] 25)) hb'); obtain ⟨q0, q1, q2, q3, q4, q5, q6, _⟩ := seven_cells hR.q.x; obtain ⟨u0', u1', u2', u3', u4', u5', u6', _⟩ := seven_cells hR.q.y; have l1 := hR.q.x.1; have l2 := hR.q.y.1; obtain ⟨_, _, _, _, _, _, _, f0, f1, f2, f3, f4, f5, f6⟩ := seven_cells hR.z))) | (go_at_call 8; refine (HI.out _ (by first | with_reducible exact hR.q.b | with_reducible exact hQ.b | with_reducible exact (QZ.new hQ [.int .i64 0, .int .i64 0, .int .i64 0, .int .i64 0, .int .i64 0, .int .i64 0, .string ⟨#[]⟩] 25).q.b | with_reducible exact (QZ.drew (QZ.new hQ0 [.int .i64 0, .int .i64 0, .int .i64 0, .int .i64 0, .int .i64 0, .int .i64 0, .string ⟨#[]⟩] 25)).q.b)).mono ?_; rintro e wS ⟨rfl, hb'⟩; (first | ((with_reducible have hR := QZ.call hR hb'); obtain ⟨q0, q1, q2, q3, q4, q5, q6, _⟩ := seven_cells hR.q.x; obtain ⟨u0', u1', u2', u3', u4', u5', u6', _⟩ := seven_cells hR.q.y; have l1 := hR.q.x.1; have l2 := hR.q.y.1; obtain ⟨_, _, _, _, _, _, _, f0, f1, f2, f3, f4, f5, f6⟩ := seven_cells hR.z) | ((with_reducible have hQ := Q7.call hQ hb'); obtain ⟨q0, q1, q2, q3, q4, q5, q6, _⟩ := seven_cells hQ.x; obtain ⟨u0', u1', u2', u3', u4', u5', u6', _⟩ := seven_cells hQ.y; have l1 := hQ.x.1; have l2 := hQ.y.1) | ((with_reducible have hR := QZ.call (QZ.new hQ [.int .i64 0, .int .i64 0, .int .i64 0, .int .i64 0, .int .i64 0, .int .i64 0, .string ⟨#[]⟩] 25) hb'); obtain ⟨q0, q1, q2, q3, q4, q5, q6, _⟩ := seven_cells hR.q.x; obtain ⟨u0', u1', u2', u3', u4', u5', u6', _⟩ := seven_cells hR.q.y; have l1 := hR.q.x.1; have l2 := hR.q.y.1; obtain ⟨_, _, _, _, _, _, _, f0, f1, f2, f3, f4, f5, f6⟩ := seven_cells hR.z) | ((with_reducible have hR := QZ.call (QZ.drew (QZ.new hQ0 [.int .i64 0, .int .i64 0, .int .i64 0, .int .i64 0, .int .i64 0, .int .i64 0, .string ⟨#[]⟩] 25)) hb'); obtain ⟨q0, q1, q2, q3, q4, q5, q6, _⟩ := seven_cells hR.q.x; obtain ⟨u0', u1', u2', u3', u4', u5', u6', _⟩ := seven_cells hR.q.y; have l1 := hR.q.x.1; have l2 := hR.q.y.1; obtain ⟨_, _, _, _, _, _, _, f0, f1, f2, f3, f4, f5, f6⟩ := seven_cells hR.z))))
          all_goals
            go_wp2_with fail
            go_meet
            first
              | with_reducible exact ⟨_, rfl, QZ.new hQ [.int .i64 zk, .int .i64 zn, .int .i64 zr, .int .i64 zg, .int .i64 zb, .int .i64 zc, .string ⟨zt.toArray⟩] 25⟩
              | with_reducible exact ⟨_, rfl, QZ.chain hR (.int .i64 zk) (.int .i64 zn) (.int .i64 zr) (.int .i64 zg) (.int .i64 zb) (.int .i64 zc) (.string ⟨zt.toArray⟩)⟩
        case rest =>
          obtain ⟨bg, rfl, hD⟩ := hcut
          have hz1 := HCC.out.z.below hD.q.b
          have hB9 := HCC.out.q.b.trans (hD.q.b.mono HCC.out.q.b.size)
          obtain ⟨e0, e1, e2, e3, e4, e5, e6, _⟩ := seven_cells hz1
          obtain ⟨m0, m1, m2, m3, m4, m5, m6, _⟩ := seven_cells hD.z
          clear hQ0 c0 c1 c2 c3 c4 c5 c6 d0 d1 d2 d3 d4 d5 d6
          go_wp2_with fail
          refine (HQ.out _).mono ?_
          rintro e w9 ⟨rfl, g9⟩
          go_wp2_with fail
          go_ret
          exact ⟨rfl, hB9.trans (g9.mono hB9.size)⟩
    · rw [if_neg hbig2] at HY
      obtain ⟨k, n, r, g, b, c, t⟩ := x
      obtain ⟨k', n', r', g', b', c', t'⟩ := y
      unfold valV at HZ HY ⊢
      dsimp only at HZ HY c0 c1 c2 c3 c4 c5 c6 d0 d1 d2 d3 d4 d5 d6 hlt hld hB ⊢
      clear hbig hbig2 hl hm L ez HT
      go_enter Tryz.func5, Tryz.ntmps5
      go_wp2_with fail
      refine (HZ.out _).mono ?_
      rintro e w1 ⟨rfl, g1⟩
      replace hB := held77_call g1 c0 c1 c2 c3 c4 c5 c6 d0 d1 d2 d3 d4 d5 d6 hlt hld hB
      clear c0 c1 c2 c3 c4 c5 c6 d0 d1 d2 d3 d4 d5 d6 hlt hld g1
      obtain ⟨c0, c1, c2, c3, c4, c5, c6, d0, d1, d2, d3, d4, d5, d6, hlt, hld, hB⟩ := hB
      go_wp2_with fail
      refine (HY.out _).mono ?_
      rintro e w2 ⟨rfl, g2⟩
      go_wp2_with fail
      go_ret
      exact ⟨rfl, hB.trans (g2.mono hB.size)⟩
  · rw [if_neg hbig] at HZ
    obtain ⟨k, n, r, g, b, c, t⟩ := x
    obtain ⟨k', n', r', g', b', c', t'⟩ := y
    unfold valV at HZ ⊢
    dsimp only at HZ hB ⊢
    clear hbig hl hm L HT c0 c1 c2 c3 c4 c5 c6 d0 d1 d2 d3 d4 d5 d6
    go_enter Tryz.func5, Tryz.ntmps5
    go_wp2_with fail
    refine (HZ.out _).mono ?_
    rintro e w1 ⟨rfl, g1⟩
    go_wp2_with fail
    go_ret
    exact ⟨rfl, hB.trans (g1.mono hB.size)⟩

set_option maxRecDepth 100000 in
theorem lifted (os : Os) (started : os.Started) (H : Type) (enc : TypeId × Value → H) :
    ReturnsInHanded {} Tryz.checked os 5 .any (fun w args => (Rows.fnExactMixedSpec.pre enc Tryz.prog Tryz.f5 Rows.fnExactMixedRow.domain false w args ∧ laidMetH Tryz.prog Rows.fnExactMixedRow.laid w) ∧ sizedMet enc Tryz.prog Tryz.f5 (OpenSpec.ofChange Rows.fnExactMixedSpec) false w args)
      (Rows.fnExactMixedSpec.post enc Tryz.prog Tryz.f5 false true false false) := by
  refine returnsInHanded_of_calls (C := Tryz.checked) own started (by kernel_rfl)
    (ChangeSpec.witness_shaped (enc := enc) (C := Tryz.checked) (os := os) (X := fun w _ => laidMetH Tryz.prog Rows.fnExactMixedRow.laid w) false (World.laidAll Tryz.prog os Rows.fnExactMixedRow.laid) #[.agg #[.int .i64 0, .int .i64 0, .int .i64 0, .int .i64 0, .int .i64 0, .int .i64 0, .string ⟨#[]⟩], .agg #[.int .i64 0, .int .i64 0, .int .i64 0, .int .i64 0, .int .i64 0, .int .i64 0, .string ⟨#[]⟩], .int .i64 0] 8 (World.laidAll_os _ _ _)
      (World.shaped_of_ZipB (by kernel_rfl) (by kernel_rfl)) (by kernel_rfl) (by kernel_rfl) (by kernel_rfl)
      (by rw [MakeChecks.laidMetH_plain _ _ _ (by kernel_rfl)]; exact laidMet_laidAll _ (by kernel_rfl) (by kernel_rfl))) ?_
  intro w0 tape i _ hsh0 _ hok hpre _
  obtain ⟨_, _, _, fn', hfn', _, _, _, _, hval00⟩ := hok
  obtain rfl : fn' = Tryz.f5 := Option.some.inj (hfn'.symm.trans Tryz.func5)
  obtain ⟨⟨⟨ds, gs, before, hw, _⟩, hx⟩, _⟩ := hpre
  have hW0 := DataW.Whole.of_heap (w' := w0.forCall tape i) (by rfl) hw
  have hL0 : laidMetH Tryz.prog Rows.fnExactMixedRow.laid (w0.forCall tape i) := hx.of_heap (by rfl)
  suffices hgo : ∀ (W : World) (base : Nat) (args : Array Value), (∀ (j : Nat) t v, Tryz.f5.params[j]? = some t → args[j]? = some v → Value.okWide Tryz.prog W .any base t v) →
      DataW.Whole enc Tryz.prog Tryz.f5.params.toList Rows.fnExactMixedSpec.vars false W args.toList ds gs before → laidMetH Tryz.prog Rows.fnExactMixedRow.laid W → W.ShapedOpen Tryz.prog →
      Calls Tryz.prog 5 args W fun e W' => ∃ v, e = .returned v ∧ Rows.fnExactMixedSpec.post enc Tryz.prog Tryz.f5 false true false false W args v W' by
    refine (hgo _ _ _ hval00 hW0 hL0 hsh0).mono fun e W' ⟨v, he, hp⟩ => ?_
    subst he
    exact ChangeSpec.post_blind hp
  clear hsh0 hval00 hW0 hL0 hx hw hfn'
  intro W base args hval0 hW hL hsh
  have hval : ∀ (j : Nat) t v, Tryz.f5.params[j]? = some t → args[j]? = some v → Value.okWide Tryz.prog W .any base t v := hval0
  have hW' := hW
  obtain ⟨p, q, hA0, hV, rfl, hfz, hnd⟩ := hW
  have hA : DataW.TrodAll enc Tryz.prog W 0 (fun _ => true) true Tryz.f5.params.toList args.toList ds p := hA0
  rw [Tryz.params5] at hA hval
  obtain ⟨v0, vs0, d0, ds0, p0, q0, hargs, rfl, rfl, h0, r0⟩ := trodAll_cons hA
  obtain ⟨v1, vs1, d1, ds1, p1, q1, rfl, rfl, rfl, h1, r1⟩ := trodAll_cons r0
  obtain ⟨v2, vs2, d2, ds2, p2, q2, rfl, rfl, rfl, h2, r2⟩ := trodAll_cons r1
  obtain ⟨rfl, rfl, rfl⟩ := trodAll_nil r2
  obtain rfl : args = #[v0, v1, v2] := by cases args; simp_all
  obtain ⟨rfl, rfl⟩ := trodVars_none hV
  have k0 := h0
  have lt0 : ∀ x ∈ p0, x.block < W.heap.size := by obtain ⟨m, hm⟩ := k0; exact DataW.trod_lt m _ _ _ hm
  have k1 := h1
  have lt1 : ∀ x ∈ p1, x.block < W.heap.size := by obtain ⟨m, hm⟩ := k1; exact DataW.trod_lt m _ _ _ hm
  have k2 := h2
  have lt2 : ∀ x ∈ p2, x.block < W.heap.size := by obtain ⟨m, hm⟩ := k2; exact DataW.trod_lt m _ _ _ hm
  obtain ⟨x0, rfl, hl0⟩ := open_value (hval 0 35 v0 rfl rfl) h0
  obtain ⟨x1, rfl, hl1⟩ := open_value (hval 1 35 v1 rfl rfl) h1
  obtain ⟨n2, rfl, rfl, rfl, wn2⟩ := open_int Tryz.underlying2 (hval 2 2 v2 rfl rfl) h2
  refine (walk x0 x1 n2 hl0 hl1 W (B7.laid_mixed hL)).mono fun e W' ⟨he, bel⟩ => ?_
  subst he
  exact ⟨_, rfl, _, _, _, [], _, [], hW', trodAll_mk1 (shut_bool Tryz.underlying4 _), (trodAll_cons_mk (Below.trod laidOut (by kernel_rfl) (of_decide_eq_true (by kernel_rfl)) k0 bel lt0) (trodAll_cons_mk (Below.trod laidOut (by kernel_rfl) (of_decide_eq_true (by kernel_rfl)) k1 bel lt1) (trodAll_cons_mk (Below.trod laidOut (by kernel_rfl) (of_decide_eq_true (by kernel_rfl)) k2 bel lt2) trodAll_mk0))), rfl, bel.frame _, fun h => by cases h⟩

theorem over : Rows.fnExactMixedRow.holds Tryz.pinned (OpenSpec.ofChange Rows.fnExactMixedSpec) :=
  OpenClaim.holds_of_wide 5 Tryz.f5 rfl rfl rfl rfl rfl rfl rfl ⟨rfl, rfl, rfl, rfl, rfl⟩ rfl rfl rfl rfl rfl (by kernel_rfl) Tryz.func5 (by kernel_rfl)
    (of_decide_eq_true (by kernel_rfl)) (by unfold Func.isWrapper; first | (rw [if_pos (by decide +kernel)]; kernel_rfl) | (rw [if_neg (by decide +kernel)]; exact ⟨rfl, rfl⟩))
    (fun os started H enc _ => lifted os started H enc)

theorem proved : Rows.FnExactMixedCardSaid :=
  Claim7.holds_tied_plain_at .later [] [.data, .data, .data, .sentinel, .sentinel] true (true, "173021e89407a0c17d0f60a5870bac83494254d9b844dabb309ea1128aba3a4a") true over (fun _ h => by cases h) (by kernel_rfl) (fun _ h => by cases h) fnExactMixed_row_tie rfl ⟨rfl, rfl⟩ (by kernel_rfl) rfl
    (fun f fn hf hfn => by
      obtain rfl : f = 5 := Option.some.inj ((show Tryz.prog.funcNamed "loop.example/g00521/laws.FnExactMixed" = some 5 by kernel_rfl).symm.trans hf) |>.symm
      obtain rfl : fn = Tryz.f5 := (Option.some.inj (Tryz.func5.symm.trans hfn)).symm
      exact ⟨by kernel_rfl, fun j t ht => by
        have hm : t ∈ Tryz.f5.params.toList := by simpa using Array.mem_of_getElem? ht
        have hall : (Tryz.f5.params.toList.all fun u => !Tryz.prog.wantsStandIn u) = true := by kernel_rfl
        exact (show Tryz.prog.wantsStandIn t = false by simpa using List.all_eq_true.1 hall t hm)⟩)
    (by kernel_rfl)
#print axioms proved
end Go.Proofs.YtkeofllcccgbbaaGreatDoor.fnExactMixed
