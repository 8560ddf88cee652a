/- Proved: for every slice of bytes FnApart answers true: of what the bytes draw, what is apart from itself is nothing, both ways it is as far, and over a third one it is no nearer. No condition. -/
import Derived.Test.YtkeofllcccgbbaaGreatDoorDraw7b
import Derived.Test.YtkeofllcccgbbaaGreatDoorBase7n
import Derived.Test.YtkeofllcccgbbaaGreatDoorImp7e
import Derived.Test.YtkeofllcccgbbaaGreatDoorMade7
import Derived.Test.YtkeofllcccgbbaaGreatDoorDoor7
import Derived.Test.YtkeofllcccgbbaaGreatDoorOpenB
import Derived.Test.YtkeofllcccgbbaaGreatDoorInv
import Derived.Deep.RegionHeld3
import Derived.Test.YtkeofllcccgbbaaGreatDoorRows
import Derived.Test.YtkeofllcccgbbaaGreatDoorCards
import Derived.Test.YtkeofllcccgbbaaGreatDoorTie
import Derived.WalkKit
import Derived.ProofKit
import Derived.OpenShut
import Derived.ShutString
import Derived.ChangeOld
import Derived.Below
import Derived.OpenVars
import Derived.ChangeVars
import Derived.Handed
import Derived.Lay
import Derived.LaidLaws
import Derived.MakeChecks
import Derived.SevenTiedAt
import Derived.Stop.Joined
namespace Go.Proofs.YtkeofllcccgbbaaGreatDoor.fnApart
open Go.ChangeShapes Go.WideShapes Go.ChangeAt Go.RowKit
open Go.ChangeMaps (open_string shut_string)
set_option linter.unusedVariables false

theorem own : ownKnob Tryz.prog.godebug = none := by kernel_rfl
theorem laidOut : laidOutB Tryz.prog = true := by kernel_rfl

open Go.Proofs.YtkeofllcccgbbaaGreatDoor.P1 Go.Proofs.YtkeofllcccgbbaaGreatDoor.B1 Go.Proofs.YtkeofllcccgbbaaGreatDoor.B2 Go.Proofs.YtkeofllcccgbbaaGreatDoor.T1 Go.Proofs.YtkeofllcccgbbaaGreatDoor.BT Go.Proofs.YtkeofllcccgbbaaGreatDoor.P5 Go.Proofs.YtkeofllcccgbbaaGreatDoor.P6 Go.Proofs.YtkeofllcccgbbaaGreatDoor.B5 Go.Proofs.YtkeofllcccgbbaaGreatDoor.B6 Go.Proofs.YtkeofllcccgbbaaGreatDoor.S7 Go.Proofs.YtkeofllcccgbbaaGreatDoor.V6 Go.Proofs.YtkeofllcccgbbaaGreatDoor.D1 Go.Proofs.YtkeofllcccgbbaaGreatDoor.V7 Go.Proofs.YtkeofllcccgbbaaGreatDoor.B7 Go.Proofs.YtkeofllcccgbbaaGreatDoor.RI
theorem mixed_len {x y : Va} (p : Int) (hx : x.w.length ≤ 100) (hy : y.w.length ≤ 100) : (P7.mixed x y p).w.length ≤ 100 := by
  unfold P7.mixed
  repeat' split
  all_goals first | assumption | (simp [Va.zero, P7.shownW])

/-- What is to be known of the third one. -/
def Mid (x y z : Va) (d : Int) : Prop := z.w.length ≤ 100 ∧ ∃ e1 e2, P7.apartV x z = e1 ∧ P7.apartV z y = e2 ∧ d ≤ e1 + e2 ∧ (-1 ≤ e1 ∧ e1 ≤ 10000000) ∧ (-1 ≤ e2 ∧ e2 ≤ 10000000)

theorem apart_bd (x y : Va) : -1 ≤ P7.apartV x y ∧ P7.apartV x y ≤ 10000000 := by
  by_cases hc : P7.canMix x y = true
  · rcases P7.mix_cases hc with ⟨k, n, m, hk, hn, hm, rfl, rfl⟩ | ⟨r, g, l, c, r', g', l', c', h1, h2, rfl, rfl⟩ | ⟨s, t, hs, ht, rfl, rfl⟩
    · rw [P7.apart_num hk hn hm]; unfold P7.size; split <;> omega
    · rw [P7.apart_color h1 h2]
      obtain ⟨a1, a2, a3, a4⟩ := h1
      obtain ⟨b1, b2, b3, b4⟩ := h2
      unfold P7.size
      repeat' split
      all_goals omega
    · rw [show P7.apartV ⟨5, 0, 0, 0, 0, 0, s⟩ ⟨5, 0, 0, 0, 0, 0, t⟩ = if s = t then 0 else 1 from P7.apart_word hs ht]
      split <;> omega
  · rw [show P7.apartV x y = -1 by unfold P7.apartV; rw [if_neg hc]]; omega

theorem apart_self {x y : Va} (hc : P7.canMix x y = true) : P7.apartV x x = 0 := by
  rcases P7.mix_cases hc with ⟨k, n, m, hk, hn, hm, rfl, rfl⟩ | ⟨r, g, l, c, r', g', l', c', h1, h2, rfl, rfl⟩ | ⟨s, t, hs, ht, rfl, rfl⟩
  · rw [P7.apart_num hk hn hn, P7.size_zero]
  · rw [P7.apart_color h1 h1, P7.size_zero, P7.size_zero, P7.size_zero, P7.size_zero]; rfl
  · rw [show P7.apartV ⟨5, 0, 0, 0, 0, 0, s⟩ ⟨5, 0, 0, 0, 0, 0, s⟩ = if s = s then 0 else 1 from P7.apart_word hs hs, if_pos rfl]

theorem mid_of {x y : Va} {p : Int} (hc : P7.canMix x y = true) (hx : x.w.length ≤ 100) (hy : y.w.length ≤ 100) (h0 : -131072 ≤ p) (h1 : p ≤ 196608) : Mid x y (P7.mixed x y p) (P7.apartV x y) :=
  ⟨mixed_len p hx hy, _, _, rfl, rfl, P7.mixed_far hc h0 h1, apart_bd _ _, apart_bd _ _⟩
set_option maxRecDepth 100000 in
set_option maxHeartbeats 60000000 in
theorem walk (A0 : Option Addr) (len0 cap0 : Nat) (w : World) (w0 : len0 ≤ 4096 → Bytes w w.heap.size A0 len0) (L : B5.Pow w) :
    Calls Tryz.prog 4 #[.slice A0 len0 cap0] w (Ans (.bool true) w) := by
  have HP := Lib.hid L
  clear L
  by_cases hbig : 4096 < len0
  · go_enter Tryz.func4, Tryz.ntmps4
    go_wp2
    go_ret
    exact ⟨rfl, Below.refl _ _⟩
  · have hb := w0 (by omega)
    clear w0
    have HBY := Lib.hid (fun w' (hq : Below w.heap.size w w') => hb.below hq)
    go_enter Tryz.func4, Tryz.ntmps4
    go_wp2_with (first | (go_at_call 6; go_in) | fail)
    refine (D7.Apart_draw _ A0 len0 cap0 hb).mono ?_
    rintro e w1 ⟨x, y, rfl, hxl, hyl, g1⟩
    clear hb
    have HA := Lib.hid (fun w' (hq : Below w.heap.size w w') => Apart_impl x y (by omega) (by omega) w' (HP.out.on hq))
    have HAr := Lib.hid (fun w' (hq : Below w.heap.size w w') => Apart_impl y x (by omega) (by omega) w' (HP.out.on hq))
    have HSA := Lib.hid (fun w' => Apart_spec x y (by omega) (by omega) w')
    have HSC := Lib.hid (fun w' => CanMix_spec x y (by omega) (by omega) w')
    rw [P7.apart_sym y x] at HAr
    have HPOS := Lib.hid (P7.apart_pos (a := x) (b := y))
    have HNONE := Lib.hid (fun h : P7.canMix x y = true => P7.apart_none h)
    have HMID := Lib.hid (fun (h : P7.canMix x y = true) p (h0 : -131072 ≤ p) (h1 : p ≤ 196608) => mid_of h hxl hyl h0 h1)
    have HM := Lib.hid (fun p w' (hq : Below w.heap.size w w') => Mixed_impl x y p (by omega) (by omega) w' (HP.out.on hq))
    obtain ⟨d, ed⟩ : ∃ d, P7.apartV x y = d := ⟨_, rfl⟩
    rw [ed] at HA HAr HSA HPOS HNONE HMID
    obtain ⟨C, eC⟩ : ∃ C, P7.canMix x y = C := ⟨_, rfl⟩
    rw [eC] at HSC HPOS HNONE HMID
    obtain ⟨xk, xn, xr, xg, xb, xc, xt⟩ := x
    obtain ⟨yk, yn, yr, yg, yb, yc, yt⟩ := y
    unfold valV at HA HAr HSA HSC ⊢
    dsimp only at HA HAr HSA HSC hxl hyl ⊢
    have hQ' := Q7.two w1 [.int .i64 xk, .int .i64 xn, .int .i64 xr, .int .i64 xg, .int .i64 xb, .int .i64 xc, .string ⟨xt.toArray⟩] [.int .i64 yk, .int .i64 yn, .int .i64 yr, .int .i64 yg, .int .i64 yb, .int .i64 yc, .string ⟨yt.toArray⟩] 25
    have hQ : Q7 w ((w1.alloc (.cells #[.int .i64 xk, .int .i64 xn, .int .i64 xr, .int .i64 xg, .int .i64 xb, .int .i64 xc, .string ⟨xt.toArray⟩] 25)).alloc (.cells #[.int .i64 yk, .int .i64 yn, .int .i64 yr, .int .i64 yg, .int .i64 yb, .int .i64 yc, .string ⟨yt.toArray⟩] 25)) w1.heap.size (w1.heap.size + 1) [.int .i64 xk, .int .i64 xn, .int .i64 xr, .int .i64 xg, .int .i64 xb, .int .i64 xc, .string ⟨xt.toArray⟩] [.int .i64 yk, .int .i64 yn, .int .i64 yr, .int .i64 yg, .int .i64 yb, .int .i64 yc, .string ⟨yt.toArray⟩] := ⟨hQ'.x, hQ'.y, g1.trans (hQ'.b.mono g1.size)⟩
    clear hQ' g1
    obtain ⟨q0, q1, q2, q3, q4, q5, q6, _⟩ := seven_cells hQ.x; obtain ⟨u0, u1, u2, u3, u4, u5, u6, _⟩ := seven_cells hQ.y; have l1 := hQ.x.1; have l2 := hQ.y.1
    have hdd : (d != d) = false := by simp
    by_cases hneg : d < 0
    · have hC : C = false := by
        cases C
        · rfl
        · exact absurd (HPOS.out.2 rfl) (by omega)
      subst hC
      clear HMID HNONE HM
      go_wp2_with (first | (go_at_call 11; refine (HSC.out _).mono ?_; rintro e w' ⟨rfl, hb'⟩; have hB9 := hQ3.b.trans (hb'.mono hQ3.b.size)) | (go_at_call 14; have hz := hQ2; refine (HAr.out _ hQ2.b).mono ?_; rintro e w' ⟨rfl, hb'⟩; have hQ3 := Q7.call hQ2 hb'; obtain ⟨q0, q1, q2, q3, q4, q5, q6, _⟩ := seven_cells hQ3.x; obtain ⟨u0, u1, u2, u3, u4, u5, u6, _⟩ := seven_cells hQ3.y; have l1 := hQ3.x.1; have l2 := hQ3.y.1) | (go_at_call 16; refine (HSA.out _).mono ?_; rintro e w' ⟨rfl, hb'⟩; have hQ2 := Q7.call hQ1 hb'; obtain ⟨q0, q1, q2, q3, q4, q5, q6, _⟩ := seven_cells hQ2.x; obtain ⟨u0, u1, u2, u3, u4, u5, u6, _⟩ := seven_cells hQ2.y; have l1 := hQ2.x.1; have l2 := hQ2.y.1) | (go_at_call 14; refine (HA.out _ hQ.b).mono ?_; rintro e w' ⟨rfl, hb'⟩; have hQ1 := Q7.call hQ hb'; obtain ⟨q0, q1, q2, q3, q4, q5, q6, _⟩ := seven_cells hQ1.x; obtain ⟨u0, u1, u2, u3, u4, u5, u6, _⟩ := seven_cells hQ1.y; have l1 := hQ1.x.1; have l2 := hQ1.y.1))
      go_ret
      exact ⟨rfl, hB9⟩
    · have hC : C = true := HPOS.out.1 (by omega)
      subst hC
      go_upto_region 9 with (first | (go_at_call 14; have hz := hQ2; refine (HAr.out _ hQ2.b).mono ?_; rintro e w' ⟨rfl, hb'⟩; have hQ3 := Q7.call hQ2 hb'; obtain ⟨q0, q1, q2, q3, q4, q5, q6, _⟩ := seven_cells hQ3.x; obtain ⟨u0, u1, u2, u3, u4, u5, u6, _⟩ := seven_cells hQ3.y; have l1 := hQ3.x.1; have l2 := hQ3.y.1) | (go_at_call 16; refine (HSA.out _).mono ?_; rintro e w' ⟨rfl, hb'⟩; have hQ2 := Q7.call hQ1 hb'; obtain ⟨q0, q1, q2, q3, q4, q5, q6, _⟩ := seven_cells hQ2.x; obtain ⟨u0, u1, u2, u3, u4, u5, u6, _⟩ := seven_cells hQ2.y; have l1 := hQ2.x.1; have l2 := hQ2.y.1) | (go_at_call 14; refine (HA.out _ hQ.b).mono ?_; rintro e w' ⟨rfl, hb'⟩; have hQ1 := Q7.call hQ hb'; obtain ⟨q0, q1, q2, q3, q4, q5, q6, _⟩ := seven_cells hQ1.x; obtain ⟨u0, u1, u2, u3, u4, u5, u6, _⟩ := seven_cells hQ1.y; have l1 := hQ1.x.1; have l2 := hQ1.y.1))
      have HM2 := Lib.hid (show ∀ p, -131072 ≤ p → p ≤ 196608 → ∀ w', Below w.heap.size w w' → Calls Tryz.prog 8 #[.agg #[.int .i64 xk, .int .i64 xn, .int .i64 xr, .int .i64 xg, .int .i64 xb, .int .i64 xc, .string ⟨xt.toArray⟩], .agg #[.int .i64 yk, .int .i64 yn, .int .i64 yr, .int .i64 yg, .int .i64 yb, .int .i64 yc, .string ⟨yt.toArray⟩], .int .i64 p] w' (fun e w'' => ∃ zk zn zr zg zb zc zt, Mid ⟨xk, xn, xr, xg, xb, xc, xt⟩ ⟨yk, yn, yr, yg, yb, yc, yt⟩ ⟨zk, zn, zr, zg, zb, zc, zt⟩ d ∧ e = .returned (.agg #[.int .i64 zk, .int .i64 zn, .int .i64 zr, .int .i64 zg, .int .i64 zb, .int .i64 zc, .string ⟨zt.toArray⟩]) ∧ Below w'.heap.size w' w'') from fun p h0 h1 w' hq => (HM.out p w' hq).mono fun e w'' ⟨he, hb⟩ => ⟨_, _, _, _, _, _, _, HMID.out (by simp) p h0 h1, he, hb⟩)
      clear HM HMID
      go_cut [6] (fun s6 wx => ∃ bC zk zn zr zg zb zc zt, s6 = .pointer (some ⟨bC, 0, none⟩) ∧ Mid ⟨xk, xn, xr, xg, xb, xc, xt⟩ ⟨yk, yn, yr, yg, yb, yc, yt⟩ ⟨zk, zn, zr, zg, zb, zc, zt⟩ d ∧ QZ w wx (w1.heap.size) (w1.heap.size + 1) bC [.int .i64 xk, .int .i64 xn, .int .i64 xr, .int .i64 xg, .int .i64 xb, .int .i64 xc, .string ⟨xt.toArray⟩] [.int .i64 yk, .int .i64 yn, .int .i64 yr, .int .i64 yg, .int .i64 yb, .int .i64 yc, .string ⟨yt.toArray⟩] [.int .i64 zk, .int .i64 zn, .int .i64 zr, .int .i64 zg, .int .i64 zb, .int .i64 zc, .string ⟨zt.toArray⟩])
      case first =>
        have hQ := Q7.drew hQ3
        go_region_with (first | (go_at_call 17; refine (D2.Pick_laws _ _ A0 len0 cap0 1 262145 (HBY.out _ (by first | with_reducible exact hR.q.b | with_reducible exact hQ.b | with_reducible exact (QZ.new hQ [.int .i64 0, .int .i64 0, .int .i64 0, .int .i64 0, .int .i64 0, .int .i64 0, .string ⟨#[]⟩] 25).q.b | with_reducible exact (QZ.drew (QZ.new hQ3 [.int .i64 0, .int .i64 0, .int .i64 0, .int .i64 0, .int .i64 0, .int .i64 0, .string ⟨#[]⟩] 25)).q.b)) (by omega) (by omega) (by omega) (by omega)).mono ?_; rintro e w' ⟨rr, hr0, hr1, rfl, rfl⟩; have hwr : IntKind.i64.wrap (rr - 65536) = rr - 65536 := (by rw [IntKind.wrap_i64]; omega)) | (go_at_call 8; refine (HM2.out (rr - 65536) (by omega) (by omega) _ (by first | with_reducible exact hR.q.b | with_reducible exact hQ.b | with_reducible exact (QZ.new hQ [.int .i64 0, .int .i64 0, .int .i64 0, .int .i64 0, .int .i64 0, .int .i64 0, .string ⟨#[]⟩] 25).q.b | with_reducible exact (QZ.drew (QZ.new hQ3 [.int .i64 0, .int .i64 0, .int .i64 0, .int .i64 0, .int .i64 0, .int .i64 0, .string ⟨#[]⟩] 25)).q.b)).mono ?_; rintro e wS ⟨zk, zn, zr, zg, zb, zc, zt, hmid, rfl, hb'⟩; (first | ((with_reducible have hR := QZ.call hR hb'); obtain ⟨q0, q1, q2, q3, q4, q5, q6, _⟩ := seven_cells hR.q.x; obtain ⟨u0, u1, u2, u3, u4, u5, u6, _⟩ := seven_cells hR.q.y; have l1 := hR.q.x.1; have l2 := hR.q.y.1; obtain ⟨_, _, _, _, _, _, _, f0, f1, f2, f3, f4, f5, f6⟩ := seven_cells hR.z) | ((with_reducible have hQ := Q7.call hQ hb'); obtain ⟨q0, q1, q2, q3, q4, q5, q6, _⟩ := seven_cells hQ.x; obtain ⟨u0, u1, u2, u3, u4, u5, u6, _⟩ := seven_cells hQ.y; have l1 := hQ.x.1; have l2 := hQ.y.1) | ((with_reducible have hR := QZ.call (QZ.new hQ [.int .i64 0, .int .i64 0, .int .i64 0, .int .i64 0, .int .i64 0, .int .i64 0, .string ⟨#[]⟩] 25) hb'); obtain ⟨q0, q1, q2, q3, q4, q5, q6, _⟩ := seven_cells hR.q.x; obtain ⟨u0, u1, u2, u3, u4, u5, u6, _⟩ := seven_cells hR.q.y; have l1 := hR.q.x.1; have l2 := hR.q.y.1; obtain ⟨_, _, _, _, _, _, _, f0, f1, f2, f3, f4, f5, f6⟩ := seven_cells hR.z) | ((with_reducible have hR := QZ.call (QZ.drew (QZ.new hQ3 [.int .i64 0, .int .i64 0, .int .i64 0, .int .i64 0, .int .i64 0, .int .i64 0, .string ⟨#[]⟩] 25)) hb'); obtain ⟨q0, q1, q2, q3, q4, q5, q6, _⟩ := seven_cells hR.q.x; obtain ⟨u0, u1, u2, u3, u4, u5, u6, _⟩ := seven_cells hR.q.y; have l1 := hR.q.x.1; have l2 := hR.q.y.1; obtain ⟨_, _, _, _, _, _, _, f0, f1, f2, f3, f4, f5, f6⟩ := seven_cells hR.z))))
        all_goals
          go_wp2_with fail
          go_meet
          first
            | with_reducible exact ⟨_, _, _, _, _, _, _, _, rfl, hmid, QZ.new hQ [.int .i64 zk, .int .i64 zn, .int .i64 zr, .int .i64 zg, .int .i64 zb, .int .i64 zc, .string ⟨zt.toArray⟩] 25⟩
            | with_reducible exact ⟨_, _, _, _, _, _, _, _, rfl, hmid, QZ.chain hR (.int .i64 zk) (.int .i64 zn) (.int .i64 zr) (.int .i64 zg) (.int .i64 zb) (.int .i64 zc) (.string ⟨zt.toArray⟩)⟩
      case rest =>
        obtain ⟨bC, zk, zn, zr, zg, zb, zc, zt, rfl, hmid, hC⟩ := hcut
        obtain ⟨hzl, e1, e2, he1, he2, hge, hb1, hb2⟩ := hmid
        have hxx := apart_self eC
        obtain ⟨s, es⟩ : ∃ s, e1 + e2 = s := ⟨_, rfl⟩
        have hws : IntKind.i64.wrap (e1 + e2) = s := by rw [IntKind.wrap_i64]; omega
        rw [es] at hge
        obtain ⟨E, eE⟩ : ∃ E, Va.same ⟨xk, xn, xr, xg, xb, xc, xt⟩ ⟨yk, yn, yr, yg, yb, yc, yt⟩ = E := ⟨_, rfl⟩
        have heq : ∀ w', (Op.equalIn 10000 25 (.agg #[.int .i64 xk, .int .i64 xn, .int .i64 xr, .int .i64 xg, .int .i64 xb, .int .i64 xc, .string ⟨xt.toArray⟩]) (.agg #[.int .i64 yk, .int .i64 yn, .int .i64 yr, .int .i64 yg, .int .i64 yb, .int .i64 yc, .string ⟨yt.toArray⟩])).run Tryz.prog w' = .ok E w' := fun w' => by
          rw [← eE]; exact eq_value xk xn xr xg xb xc yk yn yr yg yb yc xt yt w'
        have hD0 : (d == 0) = E := by
          rw [← eE]
          have := HNONE.out (by simp)
          by_cases h0 : d = 0
          · rw [Va.same_iff.2 (this.1 h0)]; simpa using h0
          · have h1 : ¬ Va.same ⟨xk, xn, xr, xg, xb, xc, xt⟩ ⟨yk, yn, yr, yg, yb, yc, yt⟩ = true := fun h => h0 (this.2 (Va.same_iff.1 h))
            rw [show (d == 0) = false by simpa using h0]
            simpa using h1
        have HGx := Lib.hid (fun w' (hq : Below w.heap.size w w') => hxx ▸ Apart_impl ⟨xk, xn, xr, xg, xb, xc, xt⟩ ⟨xk, xn, xr, xg, xb, xc, xt⟩ (show xt.length ≤ 1048576 by omega) (show xt.length ≤ 1048576 by omega) w' (HP.out.on hq))
        have HG1 := Lib.hid (fun w' (hq : Below w.heap.size w w') => he1 ▸ Apart_impl ⟨xk, xn, xr, xg, xb, xc, xt⟩ ⟨zk, zn, zr, zg, zb, zc, zt⟩ (show xt.length ≤ 1048576 by omega) (show zt.length ≤ 1048576 by dsimp only at hzl; omega) w' (HP.out.on hq))
        have HG2 := Lib.hid (fun w' (hq : Below w.heap.size w w') => he2 ▸ Apart_impl ⟨zk, zn, zr, zg, zb, zc, zt⟩ ⟨yk, yn, yr, yg, yb, yc, yt⟩ (show zt.length ≤ 1048576 by dsimp only at hzl; omega) (show yt.length ≤ 1048576 by omega) w' (HP.out.on hq))
        clear HM2 HNONE HPOS HA HAr HSA HSC HBY hQ3 hQ2 hQ1 hQ hb1 hb2 es
        go_upto_region 10 with (fail)
        refine RI.region_det (by kernel_rfl) [valV ⟨xk, xn, xr, xg, xb, xc, xt⟩, valV ⟨xk, xn, xr, xg, xb, xc, xt⟩, .int .i64 0, .bool true, .bool true, .int .i64 d, .bool E, valV ⟨xk, xn, xr, xg, xb, xc, xt⟩, valV ⟨yk, yn, yr, yg, yb, yc, yt⟩, .bool E, .bool true, .bool true, .bool true, valV ⟨xk, xn, xr, xg, xb, xc, xt⟩, valV ⟨zk, zn, zr, zg, zb, zc, zt⟩, .int .i64 e1, valV ⟨zk, zn, zr, zg, zb, zc, zt⟩, valV ⟨yk, yn, yr, yg, yb, yc, yt⟩, .int .i64 e2, .int .i64 s, .int .i64 d, .bool true, .bool true, .bool true] (fun W => QZ w W w1.heap.size (w1.heap.size + 1) bC [.int .i64 xk, .int .i64 xn, .int .i64 xr, .int .i64 xg, .int .i64 xb, .int .i64 xc, .string ⟨xt.toArray⟩] [.int .i64 yk, .int .i64 yn, .int .i64 yr, .int .i64 yg, .int .i64 yb, .int .i64 yc, .string ⟨yt.toArray⟩] [.int .i64 zk, .int .i64 zn, .int .i64 zr, .int .i64 zg, .int .i64 zb, .int .i64 zc, .string ⟨zt.toArray⟩]) (none :: none :: some 23 :: none :: none :: none :: none :: none :: none :: none :: none :: none :: none :: none :: none :: none :: none :: none :: none :: none :: none :: none :: none :: none :: none :: none :: none :: none :: none :: none :: none :: none :: none :: none :: none :: none :: none :: none :: none :: none :: none :: some 0 :: some 1 :: some 2 :: some 3 :: some 4 :: some 5 :: some 6 :: some 7 :: some 8 :: some 9 :: some 10 :: some 11 :: some 12 :: some 13 :: some 14 :: some 15 :: some 16 :: some 17 :: some 18 :: some 19 :: some 20 :: some 21 :: some 22 :: []) (by kernel_rfl) (by kernel_rfl) (QZ.drew hC) ?_ ?_
        · intro i hi A W hB hA
          have hi2 : i < 24 := hi
          have hcase : i = 0 ∨ i = 1 ∨ i = 2 ∨ i = 3 ∨ i = 4 ∨ i = 5 ∨ i = 6 ∨ i = 7 ∨ i = 8 ∨ i = 9 ∨ i = 10 ∨ i = 11 ∨ i = 12 ∨ i = 13 ∨ i = 14 ∨ i = 15 ∨ i = 16 ∨ i = 17 ∨ i = 18 ∨ i = 19 ∨ i = 20 ∨ i = 21 ∨ i = 22 ∨ i = 23 := by omega
          clear hi hi2
          rcases hcase with rfl | rfl | rfl | rfl | rfl | rfl | rfl | rfl | rfl | rfl | rfl | rfl | rfl | rfl | rfl | rfl | rfl | rfl | rfl | rfl | rfl | rfl | rfl | rfl
          · have s3 : A.tmps[3]?.getD undef = .pointer (some ⟨w1.heap.size, 0, none⟩) := (hA.st 3 (by kernel_rfl)).trans rfl
            obtain ⟨c0, c1, c2, c3, c4, c5, c6, _⟩ := seven_cells hB.q.x
            exact wpOp_of rfl rfl (wp_value (v := valV ⟨xk, xn, xr, xg, xb, xc, xt⟩) (W' := W) (by simp [execOp, Act.eval, s3, go_sem, c0, c1, c2, c3, c4, c5, c6, valV]) ⟨rfl, hB⟩)
          · have s3 : A.tmps[3]?.getD undef = .pointer (some ⟨w1.heap.size, 0, none⟩) := (hA.st 3 (by kernel_rfl)).trans rfl
            obtain ⟨c0, c1, c2, c3, c4, c5, c6, _⟩ := seven_cells hB.q.x
            exact wpOp_of rfl rfl (wp_value (v := valV ⟨xk, xn, xr, xg, xb, xc, xt⟩) (W' := W) (by simp [execOp, Act.eval, s3, go_sem, c0, c1, c2, c3, c4, c5, c6, valV]) ⟨rfl, hB⟩)
          · have s41 : A.tmps[41]?.getD undef = valV ⟨xk, xn, xr, xg, xb, xc, xt⟩ := hA.on 0 41 (by kernel_rfl) (by kernel_rfl)
            have s42 : A.tmps[42]?.getD undef = valV ⟨xk, xn, xr, xg, xb, xc, xt⟩ := hA.on 1 42 (by kernel_rfl) (by kernel_rfl)
            refine wpOp_of rfl rfl (wp_enter (f := 14) (args := #[valV ⟨xk, xn, xr, xg, xb, xc, xt⟩, valV ⟨xk, xn, xr, xg, xb, xc, xt⟩]) (by simp [execOp, Act.eval, s41, s42, go_sem]) ?_)
            refine (HGx.out W hB.q.b).mono ?_
            rintro e w' ⟨rfl, hb'⟩
            exact ⟨_, rfl, rfl, QZ.call hB hb'⟩
          · have s43 : A.tmps[43]?.getD undef = .int .i64 0 := hA.on 2 43 (by kernel_rfl) (by kernel_rfl)
            exact wpOp_of rfl rfl (wp_value (v := .bool true) (W' := W) (by simp [execOp, Act.eval, s43, go_sem]) ⟨rfl, hB⟩)
          · have s44 : A.tmps[44]?.getD undef = .bool true := hA.on 3 44 (by kernel_rfl) (by kernel_rfl)
            exact wpOp_of rfl rfl (wp_value (v := .bool true) (W' := W) (by simp [execOp, Act.eval, s44, go_sem]) ⟨rfl, hB⟩)
          · have hg : A.tmps[45]?.getD undef = .bool true := hA.on 4 45 (by kernel_rfl) (by kernel_rfl)
            have s5 : A.tmps[5]?.getD undef = .int .i64 d := (hA.st 5 (by kernel_rfl)).trans rfl
            exact wpOp_want rfl rfl (by kernel_rfl) hg (wp_value (v := .int .i64 d) (W' := W) (by simp [execOp, Act.eval, s5, go_sem]) ⟨rfl, hB⟩)
          · have hg : A.tmps[45]?.getD undef = .bool true := hA.on 4 45 (by kernel_rfl) (by kernel_rfl)
            have s46 : A.tmps[46]?.getD undef = .int .i64 d := hA.on 5 46 (by kernel_rfl) (by kernel_rfl)
            exact wpOp_want rfl rfl (by kernel_rfl) hg (wp_value (v := .bool E) (W' := W) (by simp [execOp, Act.eval, s46, go_sem, hD0]) ⟨rfl, hB⟩)
          · have hg : A.tmps[45]?.getD undef = .bool true := hA.on 4 45 (by kernel_rfl) (by kernel_rfl)
            have s3 : A.tmps[3]?.getD undef = .pointer (some ⟨w1.heap.size, 0, none⟩) := (hA.st 3 (by kernel_rfl)).trans rfl
            obtain ⟨c0, c1, c2, c3, c4, c5, c6, _⟩ := seven_cells hB.q.x
            exact wpOp_want rfl rfl (by kernel_rfl) hg (wp_value (v := valV ⟨xk, xn, xr, xg, xb, xc, xt⟩) (W' := W) (by simp [execOp, Act.eval, s3, go_sem, c0, c1, c2, c3, c4, c5, c6, valV]) ⟨rfl, hB⟩)
          · have hg : A.tmps[45]?.getD undef = .bool true := hA.on 4 45 (by kernel_rfl) (by kernel_rfl)
            have s4 : A.tmps[4]?.getD undef = .pointer (some ⟨w1.heap.size + 1, 0, none⟩) := (hA.st 4 (by kernel_rfl)).trans rfl
            obtain ⟨c0, c1, c2, c3, c4, c5, c6, _⟩ := seven_cells hB.q.y
            exact wpOp_want rfl rfl (by kernel_rfl) hg (wp_value (v := valV ⟨yk, yn, yr, yg, yb, yc, yt⟩) (W' := W) (by simp [execOp, Act.eval, s4, go_sem, c0, c1, c2, c3, c4, c5, c6, valV]) ⟨rfl, hB⟩)
          · have hg : A.tmps[45]?.getD undef = .bool true := hA.on 4 45 (by kernel_rfl) (by kernel_rfl)
            have s48 : A.tmps[48]?.getD undef = valV ⟨xk, xn, xr, xg, xb, xc, xt⟩ := hA.on 7 48 (by kernel_rfl) (by kernel_rfl)
            have s49 : A.tmps[49]?.getD undef = valV ⟨yk, yn, yr, yg, yb, yc, yt⟩ := hA.on 8 49 (by kernel_rfl) (by kernel_rfl)
            exact wpOp_want rfl rfl (by kernel_rfl) hg (wp_value (v := .bool E) (W' := W) (by simp [execOp, Act.eval, s48, s49, go_sem, guardV, eqlV, eE]) ⟨rfl, hB⟩)
          · have hg : A.tmps[45]?.getD undef = .bool true := hA.on 4 45 (by kernel_rfl) (by kernel_rfl)
            have s47 : A.tmps[47]?.getD undef = .bool E := hA.on 6 47 (by kernel_rfl) (by kernel_rfl)
            have s50 : A.tmps[50]?.getD undef = .bool E := hA.on 9 50 (by kernel_rfl) (by kernel_rfl)
            exact wpOp_want rfl rfl (by kernel_rfl) hg (wp_value (v := .bool true) (W' := W) (by simp [execOp, Act.eval, s47, s50, go_sem]) ⟨rfl, hB⟩)
          · have s45 : A.tmps[45]?.getD undef = .bool true := hA.on 4 45 (by kernel_rfl) (by kernel_rfl)
            have s51 : A.tmps[51]?.getD undef = .bool true := hA.on 10 51 (by kernel_rfl) (by kernel_rfl)
            exact wpOp_of rfl rfl (wp_value (v := .bool true) (W' := W) (by simp [execOp, Act.eval, s45, s51, go_sem]) ⟨rfl, hB⟩)
          · have s52 : A.tmps[52]?.getD undef = .bool true := hA.on 11 52 (by kernel_rfl) (by kernel_rfl)
            exact wpOp_of rfl rfl (wp_value (v := .bool true) (W' := W) (by simp [execOp, Act.eval, s52, go_sem]) ⟨rfl, hB⟩)
          · have hg : A.tmps[53]?.getD undef = .bool true := hA.on 12 53 (by kernel_rfl) (by kernel_rfl)
            have s3 : A.tmps[3]?.getD undef = .pointer (some ⟨w1.heap.size, 0, none⟩) := (hA.st 3 (by kernel_rfl)).trans rfl
            obtain ⟨c0, c1, c2, c3, c4, c5, c6, _⟩ := seven_cells hB.q.x
            exact wpOp_want rfl rfl (by kernel_rfl) hg (wp_value (v := valV ⟨xk, xn, xr, xg, xb, xc, xt⟩) (W' := W) (by simp [execOp, Act.eval, s3, go_sem, c0, c1, c2, c3, c4, c5, c6, valV]) ⟨rfl, hB⟩)
          · have hg : A.tmps[53]?.getD undef = .bool true := hA.on 12 53 (by kernel_rfl) (by kernel_rfl)
            have s6 : A.tmps[6]?.getD undef = .pointer (some ⟨bC, 0, none⟩) := (hA.st 6 (by kernel_rfl)).trans rfl
            obtain ⟨c0, c1, c2, c3, c4, c5, c6, _⟩ := seven_cells hB.z
            exact wpOp_want rfl rfl (by kernel_rfl) hg (wp_value (v := valV ⟨zk, zn, zr, zg, zb, zc, zt⟩) (W' := W) (by simp [execOp, Act.eval, s6, go_sem, c0, c1, c2, c3, c4, c5, c6, valV]) ⟨rfl, hB⟩)
          · have hg : A.tmps[53]?.getD undef = .bool true := hA.on 12 53 (by kernel_rfl) (by kernel_rfl)
            have s54 : A.tmps[54]?.getD undef = valV ⟨xk, xn, xr, xg, xb, xc, xt⟩ := hA.on 13 54 (by kernel_rfl) (by kernel_rfl)
            have s55 : A.tmps[55]?.getD undef = valV ⟨zk, zn, zr, zg, zb, zc, zt⟩ := hA.on 14 55 (by kernel_rfl) (by kernel_rfl)
            refine wpOp_want rfl rfl (by kernel_rfl) hg (wp_enter (f := 14) (args := #[valV ⟨xk, xn, xr, xg, xb, xc, xt⟩, valV ⟨zk, zn, zr, zg, zb, zc, zt⟩]) (by simp [execOp, Act.eval, s54, s55, go_sem]) ?_)
            refine (HG1.out W hB.q.b).mono ?_
            rintro e w' ⟨rfl, hb'⟩
            exact ⟨_, rfl, rfl, QZ.call hB hb'⟩
          · have hg : A.tmps[53]?.getD undef = .bool true := hA.on 12 53 (by kernel_rfl) (by kernel_rfl)
            have s6 : A.tmps[6]?.getD undef = .pointer (some ⟨bC, 0, none⟩) := (hA.st 6 (by kernel_rfl)).trans rfl
            obtain ⟨c0, c1, c2, c3, c4, c5, c6, _⟩ := seven_cells hB.z
            exact wpOp_want rfl rfl (by kernel_rfl) hg (wp_value (v := valV ⟨zk, zn, zr, zg, zb, zc, zt⟩) (W' := W) (by simp [execOp, Act.eval, s6, go_sem, c0, c1, c2, c3, c4, c5, c6, valV]) ⟨rfl, hB⟩)
          · have hg : A.tmps[53]?.getD undef = .bool true := hA.on 12 53 (by kernel_rfl) (by kernel_rfl)
            have s4 : A.tmps[4]?.getD undef = .pointer (some ⟨w1.heap.size + 1, 0, none⟩) := (hA.st 4 (by kernel_rfl)).trans rfl
            obtain ⟨c0, c1, c2, c3, c4, c5, c6, _⟩ := seven_cells hB.q.y
            exact wpOp_want rfl rfl (by kernel_rfl) hg (wp_value (v := valV ⟨yk, yn, yr, yg, yb, yc, yt⟩) (W' := W) (by simp [execOp, Act.eval, s4, go_sem, c0, c1, c2, c3, c4, c5, c6, valV]) ⟨rfl, hB⟩)
          · have hg : A.tmps[53]?.getD undef = .bool true := hA.on 12 53 (by kernel_rfl) (by kernel_rfl)
            have s57 : A.tmps[57]?.getD undef = valV ⟨zk, zn, zr, zg, zb, zc, zt⟩ := hA.on 16 57 (by kernel_rfl) (by kernel_rfl)
            have s58 : A.tmps[58]?.getD undef = valV ⟨yk, yn, yr, yg, yb, yc, yt⟩ := hA.on 17 58 (by kernel_rfl) (by kernel_rfl)
            refine wpOp_want rfl rfl (by kernel_rfl) hg (wp_enter (f := 14) (args := #[valV ⟨zk, zn, zr, zg, zb, zc, zt⟩, valV ⟨yk, yn, yr, yg, yb, yc, yt⟩]) (by simp [execOp, Act.eval, s57, s58, go_sem]) ?_)
            refine (HG2.out W hB.q.b).mono ?_
            rintro e w' ⟨rfl, hb'⟩
            exact ⟨_, rfl, rfl, QZ.call hB hb'⟩
          · have hg : A.tmps[53]?.getD undef = .bool true := hA.on 12 53 (by kernel_rfl) (by kernel_rfl)
            have s56 : A.tmps[56]?.getD undef = .int .i64 e1 := hA.on 15 56 (by kernel_rfl) (by kernel_rfl)
            have s59 : A.tmps[59]?.getD undef = .int .i64 e2 := hA.on 18 59 (by kernel_rfl) (by kernel_rfl)
            exact wpOp_want rfl rfl (by kernel_rfl) hg (wp_value (v := .int .i64 s) (W' := W) (by simp [execOp, Act.eval, s56, s59, go_sem, hws]) ⟨rfl, hB⟩)
          · have hg : A.tmps[53]?.getD undef = .bool true := hA.on 12 53 (by kernel_rfl) (by kernel_rfl)
            have s5 : A.tmps[5]?.getD undef = .int .i64 d := (hA.st 5 (by kernel_rfl)).trans rfl
            exact wpOp_want rfl rfl (by kernel_rfl) hg (wp_value (v := .int .i64 d) (W' := W) (by simp [execOp, Act.eval, s5, go_sem]) ⟨rfl, hB⟩)
          · have hg : A.tmps[53]?.getD undef = .bool true := hA.on 12 53 (by kernel_rfl) (by kernel_rfl)
            have s60 : A.tmps[60]?.getD undef = .int .i64 s := hA.on 19 60 (by kernel_rfl) (by kernel_rfl)
            have s61 : A.tmps[61]?.getD undef = .int .i64 d := hA.on 20 61 (by kernel_rfl) (by kernel_rfl)
            exact wpOp_want rfl rfl (by kernel_rfl) hg (wp_value (v := .bool true) (W' := W) (by simp [execOp, Act.eval, s60, s61, go_sem, hge]) ⟨rfl, hB⟩)
          · have s53 : A.tmps[53]?.getD undef = .bool true := hA.on 12 53 (by kernel_rfl) (by kernel_rfl)
            have s62 : A.tmps[62]?.getD undef = .bool true := hA.on 21 62 (by kernel_rfl) (by kernel_rfl)
            exact wpOp_of rfl rfl (wp_value (v := .bool true) (W' := W) (by simp [execOp, Act.eval, s53, s62, go_sem]) ⟨rfl, hB⟩)
          · have s63 : A.tmps[63]?.getD undef = .bool true := hA.on 22 63 (by kernel_rfl) (by kernel_rfl)
            exact wpOp_of rfl rfl (wp_value (v := .bool true) (W' := W) (by simp [execOp, Act.eval, s63, go_sem]) ⟨rfl, hB⟩)
        intro wT hT
        simp only [RI.mergeL, List.getElem?_cons_zero, List.getElem?_cons_succ, Option.getD_some]
        go_wp2_with fail
        go_ret
        exact ⟨rfl, hT.q.b⟩

set_option maxRecDepth 100000 in
theorem lifted (os : Os) (started : os.Started) (H : Type) (enc : TypeId × Value → H) :
    ReturnsInHanded {} Tryz.checked os 4 .any (fun w args => (Rows.fnApartSpec.pre enc Tryz.prog Tryz.f4 Rows.fnApartRow.domain false w args ∧ laidMetH Tryz.prog Rows.fnApartRow.laid w) ∧ sizedMet enc Tryz.prog Tryz.f4 (OpenSpec.ofChange Rows.fnApartSpec) false w args)
      (Rows.fnApartSpec.post enc Tryz.prog Tryz.f4 false true false false) := by
  refine returnsInHanded_of_calls (C := Tryz.checked) own started (by kernel_rfl)
    (ChangeSpec.witness_shaped (enc := enc) (C := Tryz.checked) (os := os) (X := fun w _ => laidMetH Tryz.prog Rows.fnApartRow.laid w) false (World.laidAll Tryz.prog os Rows.fnApartRow.laid) #[.slice none 0 0] 8 (World.laidAll_os _ _ _)
      (World.shaped_of_ZipB (by kernel_rfl) (by kernel_rfl)) (by kernel_rfl) (by kernel_rfl) (by kernel_rfl)
      (by rw [MakeChecks.laidMetH_plain _ _ _ (by kernel_rfl)]; exact laidMet_laidAll _ (by kernel_rfl) (by kernel_rfl))) ?_
  intro w0 tape i _ hsh0 _ hok hpre _
  obtain ⟨_, _, _, fn', hfn', _, _, _, _, hval00⟩ := hok
  obtain rfl : fn' = Tryz.f4 := Option.some.inj (hfn'.symm.trans Tryz.func4)
  obtain ⟨⟨⟨ds, gs, before, hw, _⟩, hx⟩, _⟩ := hpre
  have hW0 := DataW.Whole.of_heap (w' := w0.forCall tape i) (by rfl) hw
  have hL0 : laidMetH Tryz.prog Rows.fnApartRow.laid (w0.forCall tape i) := hx.of_heap (by rfl)
  suffices hgo : ∀ (W : World) (base : Nat) (args : Array Value), (∀ (j : Nat) t v, Tryz.f4.params[j]? = some t → args[j]? = some v → Value.okWide Tryz.prog W .any base t v) →
      DataW.Whole enc Tryz.prog Tryz.f4.params.toList Rows.fnApartSpec.vars false W args.toList ds gs before → laidMetH Tryz.prog Rows.fnApartRow.laid W → W.ShapedOpen Tryz.prog →
      Calls Tryz.prog 4 args W fun e W' => ∃ v, e = .returned v ∧ Rows.fnApartSpec.post enc Tryz.prog Tryz.f4 false true false false W args v W' by
    refine (hgo _ _ _ hval00 hW0 hL0 hsh0).mono fun e W' ⟨v, he, hp⟩ => ?_
    subst he
    exact ChangeSpec.post_blind hp
  clear hsh0 hval00 hW0 hL0 hx hw hfn'
  intro W base args hval0 hW hL hsh
  have hval : ∀ (j : Nat) t v, Tryz.f4.params[j]? = some t → args[j]? = some v → Value.okWide Tryz.prog W .any base t v := hval0
  have hW' := hW
  obtain ⟨p, q, hA0, hV, rfl, hfz, hnd⟩ := hW
  have hA : DataW.TrodAll enc Tryz.prog W 0 (fun _ => true) true Tryz.f4.params.toList args.toList ds p := hA0
  rw [Tryz.params4] at hA hval
  obtain ⟨v0, vs0, d0, ds0, p0, q0, hargs, rfl, rfl, h0, r0⟩ := trodAll_cons hA
  obtain ⟨rfl, rfl, rfl⟩ := trodAll_nil r0
  obtain rfl : args = #[v0] := by cases args; simp_all
  obtain ⟨rfl, rfl⟩ := trodVars_none hV
  have k0 := h0
  have lt0 : ∀ x ∈ p0, x.block < W.heap.size := by obtain ⟨m, hm⟩ := k0; exact DataW.trod_lt m _ _ _ hm
  obtain ⟨a0, len0, cap0, rfl, w0⟩ := open_bytes (hval 0 22 v0 rfl rfl) h0
  refine (walk a0 len0 cap0 W w0 (B7.laid_fnApart hL)).mono fun e W' ⟨he, bel⟩ => ?_
  subst he
  exact ⟨_, rfl, _, _, _, [], _, [], hW', trodAll_mk1 (shut_bool Tryz.underlying4 _), (trodAll_cons_mk (Below.trod laidOut (by kernel_rfl) (of_decide_eq_true (by kernel_rfl)) k0 bel lt0) trodAll_mk0), rfl, bel.frame _, fun h => by cases h⟩

theorem over : Rows.fnApartRow.holds Tryz.pinned (OpenSpec.ofChange Rows.fnApartSpec) :=
  OpenClaim.holds_of_wide 4 Tryz.f4 rfl rfl rfl rfl rfl rfl rfl ⟨rfl, rfl, rfl, rfl, rfl⟩ rfl rfl rfl rfl rfl (by kernel_rfl) Tryz.func4 (by kernel_rfl)
    (of_decide_eq_true (by kernel_rfl)) (by unfold Func.isWrapper; first | (rw [if_pos (by decide +kernel)]; kernel_rfl) | (rw [if_neg (by decide +kernel)]; exact ⟨rfl, rfl⟩))
    (fun os started H enc _ => lifted os started H enc)

theorem proved : Rows.FnApartCardSaid :=
  Claim7.holds_tied_plain_at .later [] [.data, .data, .data, .sentinel, .sentinel] true (true, "173021e89407a0c17d0f60a5870bac83494254d9b844dabb309ea1128aba3a4a") true over (fun _ h => by cases h) (by kernel_rfl) (fun _ h => by cases h) fnApart_row_tie rfl ⟨rfl, rfl⟩ (by kernel_rfl) rfl
    (fun f fn hf hfn => by
      obtain rfl : f = 4 := Option.some.inj ((show Tryz.prog.funcNamed "loop.example/g00521/laws.FnApart" = some 4 by kernel_rfl).symm.trans hf) |>.symm
      obtain rfl : fn = Tryz.f4 := (Option.some.inj (Tryz.func4.symm.trans hfn)).symm
      exact ⟨by kernel_rfl, fun j t ht => by
        have hm : t ∈ Tryz.f4.params.toList := by simpa using Array.mem_of_getElem? ht
        have hall : (Tryz.f4.params.toList.all fun u => !Tryz.prog.wantsStandIn u) = true := by kernel_rfl
        exact (show Tryz.prog.wantsStandIn t = false by simpa using List.all_eq_true.1 hall t hm)⟩)
    (by kernel_rfl)
#print axioms proved
end Go.Proofs.YtkeofllcccgbbaaGreatDoor.fnApart
