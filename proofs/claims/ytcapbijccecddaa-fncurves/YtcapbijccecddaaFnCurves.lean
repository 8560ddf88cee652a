/- Proved: for every slice of bytes FnCurves answers true: a curve is at 0 at its beginning and at One at its end, and its stops go on and on, as drawn. No condition. -/
import Derived.Test.YtcapbijccecddaaBase2c
import Derived.Test.YtcapbijccecddaaDraw2
import Derived.Test.YtcapbijccecddaaOpenB
import Derived.Test.YtcapbijccecddaaRows
import Derived.WalkKit
import Derived.ProofKit
import Derived.OpenShut
import Derived.ShutString
import Derived.ChangeOld
import Derived.Below
namespace Go.Proofs.Ytcapbijccecddaa.fnCurves
open Go.ChangeShapes Go.WideShapes Go.ChangeAt Go.RowKit
open Go.ChangeMaps (open_string shut_string)
set_option linter.unusedVariables false

theorem own : ownKnob Try.prog.godebug = none := by kernel_rfl
theorem laidOut : laidOutB Try.prog = true := by kernel_rfl

open Go.Proofs.Ytcapbijccecddaa.P1 Go.Proofs.Ytcapbijccecddaa.B1 Go.Proofs.Ytcapbijccecddaa.D1 Go.Proofs.Ytcapbijccecddaa.P2 Go.Proofs.Ytcapbijccecddaa.B2 Go.Proofs.Ytcapbijccecddaa.D2
set_option maxRecDepth 100000 in
set_option maxHeartbeats 4000000 in
theorem walk (a0 : Option Addr) (len0 cap0 : Nat) (w : World) (w0 : len0 ≤ 4096 → Bytes w w.heap.size a0 len0) :
    Calls Try.prog 3 #[.slice a0 len0 cap0] w (Ans (.bool true) w) := by
  by_cases hbig : 4096 < len0
  · go_enter Try.func3, Try.ntmps3
    go_wp2
    go_ret
    exact ⟨rfl, Below.refl _ _⟩
  · have hb := w0 (by omega)
    clear w0
    go_enter Try.func3, Try.ntmps3
    go_wp2_with (first | (go_at_call 10; go_in) | fail)
    refine (CurveAt_draw _ a0 len0 cap0 hb).mono ?_
    rintro e w1 ⟨x1, y1, x2, y2, p, ⟨hp0, hp1⟩, rfl, hb1⟩
    obtain ⟨k0, k1, k2, k3, hl, hB⟩ := four_mk x1 y1 x2 y2 25 hb1
    go_wp2_with fail
    generalize w1.alloc (.cells #[.int .i64 x1, .int .i64 y1, .int .i64 x2, .int .i64 y2] 25) = W1 at *
    generalize w1.heap.size = b at *
    refine (CurveAt_impl _ _ _ _ _ _).mono ?_
    rintro e W2 ⟨rfl, g⟩
    obtain ⟨k0, k1, k2, k3, hl, hB⟩ := held4_call g k0 k1 k2 k3 hl hB
    clear g
    go_wp2_with fail
    refine (StopOf_impl _ _ _ _ _ _).mono ?_
    rintro e W3 ⟨rfl, g⟩
    obtain ⟨k0, k1, k2, k3, hl, hB⟩ := held4_call g k0 k1 k2 k3 hl hB
    clear g
    go_wp2_with fail
    refine (AlongX_draw _ a0 len0 cap0 (hb.below hB)).mono ?_
    rintro e W4 ⟨z1, s1, z2, s2, t, ht, rfl, g⟩
    obtain ⟨k0, k1, k2, k3, hl, hB⟩ := held4_call g k0 k1 k2 k3 hl hB
    clear g ht
    obtain ⟨j0, j1, j2, j3, jl, jB⟩ := four_mk z1 s1 z2 s2 25 hB
    obtain ⟨k0, k1, k2, k3, hl, hB⟩ := held4_call (below_alloc_self W4 (.cells #[.int .i64 z1, .int .i64 s1, .int .i64 z2, .int .i64 s2] 25)) k0 k1 k2 k3 hl hB
    clear jB
    go_wp2_with fail
    generalize W4.alloc (.cells #[.int .i64 z1, .int .i64 s1, .int .i64 z2, .int .i64 s2] 25) = W5 at *
    generalize W4.heap.size = d at *
    clear hb1 hb
    go_region_held3 (fun w' => w'.cell? ⟨b, 0, none⟩ = some (.int .i64 x1) ∧ w'.cell? ⟨b, 1, none⟩ = some (.int .i64 y1) ∧ w'.cell? ⟨b, 2, none⟩ = some (.int .i64 x2) ∧ w'.cell? ⟨b, 3, none⟩ = some (.int .i64 y2) ∧ w'.cell? ⟨d, 0, none⟩ = some (.int .i64 z1) ∧ w'.cell? ⟨d, 1, none⟩ = some (.int .i64 s1) ∧ w'.cell? ⟨d, 2, none⟩ = some (.int .i64 z2) ∧ w'.cell? ⟨d, 3, none⟩ = some (.int .i64 s2) ∧ b < w'.heap.size ∧ d < w'.heap.size ∧ Below w.heap.size w w')
      (first | exact held8_drew k0 k1 k2 k3 j0 j1 j2 j3 (by assumption) jl hB | (go_split_ands; exact ⟨by assumption, by assumption, by assumption, by assumption, by assumption, by assumption, by assumption, by assumption, by assumption, by assumption, by assumption⟩) | (go_split_ands; exact held8_call hb' (by assumption) (by assumption) (by assumption) (by assumption) (by assumption) (by assumption) (by assumption) (by assumption) (by assumption) (by assumption) (by assumption)))
      (first | (go_at_call 15; refine (CurveAt_spec _ _ _ _ _ _).mono ?_; rintro e w' ⟨rfl, hb'⟩) | (go_at_call 16; refine (StopOf_spec _ _ _ _ _ _).mono ?_; rintro e w' ⟨rfl, hb'⟩) | (go_at_call 17; refine (AlongX_impl _ _ _ _ _ _).mono ?_; rintro e w' ⟨rfl, hb'⟩) | (go_at_call 18; refine (AlongX_spec _ _ _ _ _ _).mono ?_; rintro e w' ⟨rfl, hb'⟩) | (go_at_call 19; refine (AlongY_impl _ _ _ _ _ _).mono ?_; rintro e w' ⟨rfl, hb'⟩) | (go_at_call 20; refine (AlongY_spec _ _ _ _ _ _).mono ?_; rintro e w' ⟨rfl, hb'⟩) | (go_at_call 21; refine (CurveOk_impl _ _ _ _ _).mono ?_; rintro e w' ⟨rfl, hb'⟩) | (go_at_call 22; refine (CurveOk_spec _ _ _ _ _).mono ?_; rintro e w' ⟨rfl, hb'⟩))
    rename_i hS
    obtain ⟨n0, n1, n2, n3, _, _, _, _, nl, _, nB⟩ := hS
    clear k0 k1 k2 k3 j0 j1 j2 j3 jl
    cases h1 : curveOk x1 y1 x2 y2
    · have q0 := curveAt_out (p := p) (Or.inl h1)
      have q1 := stopOf_out (p := p) (Or.inl h1)
      go_wp2_with (first | (go_at_call 22; refine (CurveOk_spec _ _ _ _ _).mono ?_; rintro e w' ⟨rfl, g⟩; obtain ⟨k0, k1, k2, k3, hl, hB⟩ := held4_call (w := w) (c := b) g (by assumption) (by assumption) (by assumption) (by assumption) (by assumption) (by assumption); clear g) | (go_at_call 13; refine (StopOf_impl _ _ _ _ _ _).mono ?_; rintro e w' ⟨rfl, g⟩; obtain ⟨k0, k1, k2, k3, hl, hB⟩ := held4_call (w := w) (c := b) g (by assumption) (by assumption) (by assumption) (by assumption) (by assumption) (by assumption); clear g) | (go_at_call 17; refine (AlongX_impl _ _ _ _ _ _).mono ?_; rintro e w' ⟨rfl, g⟩; obtain ⟨k0, k1, k2, k3, hl, hB⟩ := held4_call (w := w) (c := b) g (by assumption) (by assumption) (by assumption) (by assumption) (by assumption) (by assumption); clear g) | (go_at_call 12; refine (CurveAt_impl _ _ _ _ _ _).mono ?_; rintro e w' ⟨rfl, g⟩; obtain ⟨k0, k1, k2, k3, hl, hB⟩ := held4_call (w := w) (c := b) g (by assumption) (by assumption) (by assumption) (by assumption) (by assumption) (by assumption); clear g))
      go_ret
      exact ⟨rfl, by assumption⟩
    · rcases (show p < 0 ∨ (0 ≤ p ∧ 65536 < p) ∨ (0 ≤ p ∧ p ≤ 65536) from by omega) with d1 | ⟨d1, d2⟩ | ⟨d1, d2⟩
      · have q0 := curveAt_out (x1 := x1) (y1 := y1) (x2 := x2) (y2 := y2) (Or.inr (within_not (Or.inl d1)))
        have q1 := stopOf_out (x1 := x1) (y1 := y1) (x2 := x2) (y2 := y2) (Or.inr (within_not (Or.inl d1)))
        go_wp2_with (first | (go_at_call 22; refine (CurveOk_spec _ _ _ _ _).mono ?_; rintro e w' ⟨rfl, g⟩; obtain ⟨k0, k1, k2, k3, hl, hB⟩ := held4_call (w := w) (c := b) g (by assumption) (by assumption) (by assumption) (by assumption) (by assumption) (by assumption); clear g) | (go_at_call 13; refine (StopOf_impl _ _ _ _ _ _).mono ?_; rintro e w' ⟨rfl, g⟩; obtain ⟨k0, k1, k2, k3, hl, hB⟩ := held4_call (w := w) (c := b) g (by assumption) (by assumption) (by assumption) (by assumption) (by assumption) (by assumption); clear g) | (go_at_call 17; refine (AlongX_impl _ _ _ _ _ _).mono ?_; rintro e w' ⟨rfl, g⟩; obtain ⟨k0, k1, k2, k3, hl, hB⟩ := held4_call (w := w) (c := b) g (by assumption) (by assumption) (by assumption) (by assumption) (by assumption) (by assumption); clear g) | (go_at_call 12; refine (CurveAt_impl _ _ _ _ _ _).mono ?_; rintro e w' ⟨rfl, g⟩; obtain ⟨k0, k1, k2, k3, hl, hB⟩ := held4_call (w := w) (c := b) g (by assumption) (by assumption) (by assumption) (by assumption) (by assumption) (by assumption); clear g))
        go_ret
        exact ⟨rfl, by assumption⟩
      · have q0 := curveAt_out (x1 := x1) (y1 := y1) (x2 := x2) (y2 := y2) (Or.inr (within_not (Or.inr d2)))
        have q1 := stopOf_out (x1 := x1) (y1 := y1) (x2 := x2) (y2 := y2) (Or.inr (within_not (Or.inr d2)))
        go_wp2_with (first | (go_at_call 22; refine (CurveOk_spec _ _ _ _ _).mono ?_; rintro e w' ⟨rfl, g⟩; obtain ⟨k0, k1, k2, k3, hl, hB⟩ := held4_call (w := w) (c := b) g (by assumption) (by assumption) (by assumption) (by assumption) (by assumption) (by assumption); clear g) | (go_at_call 13; refine (StopOf_impl _ _ _ _ _ _).mono ?_; rintro e w' ⟨rfl, g⟩; obtain ⟨k0, k1, k2, k3, hl, hB⟩ := held4_call (w := w) (c := b) g (by assumption) (by assumption) (by assumption) (by assumption) (by assumption) (by assumption); clear g) | (go_at_call 17; refine (AlongX_impl _ _ _ _ _ _).mono ?_; rintro e w' ⟨rfl, g⟩; obtain ⟨k0, k1, k2, k3, hl, hB⟩ := held4_call (w := w) (c := b) g (by assumption) (by assumption) (by assumption) (by assumption) (by assumption) (by assumption); clear g) | (go_at_call 12; refine (CurveAt_impl _ _ _ _ _ _).mono ?_; rintro e w' ⟨rfl, g⟩; obtain ⟨k0, k1, k2, k3, hl, hB⟩ := held4_call (w := w) (c := b) g (by assumption) (by assumption) (by assumption) (by assumption) (by assumption) (by assumption); clear g))
        go_ret
        exact ⟨rfl, by assumption⟩
      · obtain ⟨q0, q1, q2⟩ := curve_ends h1
        obtain ⟨t1, A, q3, t2, t3, q4, A0, A1, A2, HB, HU⟩ := stop_case h1 d1 d2
        by_cases hlt : p < 65536
        · obtain ⟨U, q5, U0, U1⟩ := HU hlt
          by_cases hT : 0 < t1
          · obtain ⟨B, q6, B0, B1, B2⟩ := HB hT
            clear HB HU
            go_wp2_with (first | (go_at_call 22; refine (CurveOk_spec _ _ _ _ _).mono ?_; rintro e w' ⟨rfl, g⟩; obtain ⟨k0, k1, k2, k3, hl, hB⟩ := held4_call (w := w) (c := b) g (by assumption) (by assumption) (by assumption) (by assumption) (by assumption) (by assumption); clear g) | (go_at_call 13; refine (StopOf_impl _ _ _ _ _ _).mono ?_; rintro e w' ⟨rfl, g⟩; obtain ⟨k0, k1, k2, k3, hl, hB⟩ := held4_call (w := w) (c := b) g (by assumption) (by assumption) (by assumption) (by assumption) (by assumption) (by assumption); clear g) | (go_at_call 17; refine (AlongX_impl _ _ _ _ _ _).mono ?_; rintro e w' ⟨rfl, g⟩; obtain ⟨k0, k1, k2, k3, hl, hB⟩ := held4_call (w := w) (c := b) g (by assumption) (by assumption) (by assumption) (by assumption) (by assumption) (by assumption); clear g) | (go_at_call 12; refine (CurveAt_impl _ _ _ _ _ _).mono ?_; rintro e w' ⟨rfl, g⟩; obtain ⟨k0, k1, k2, k3, hl, hB⟩ := held4_call (w := w) (c := b) g (by assumption) (by assumption) (by assumption) (by assumption) (by assumption) (by assumption); clear g))
            go_ret
            exact ⟨rfl, by assumption⟩
          · clear HB HU
            go_wp2_with (first | (go_at_call 22; refine (CurveOk_spec _ _ _ _ _).mono ?_; rintro e w' ⟨rfl, g⟩; obtain ⟨k0, k1, k2, k3, hl, hB⟩ := held4_call (w := w) (c := b) g (by assumption) (by assumption) (by assumption) (by assumption) (by assumption) (by assumption); clear g) | (go_at_call 13; refine (StopOf_impl _ _ _ _ _ _).mono ?_; rintro e w' ⟨rfl, g⟩; obtain ⟨k0, k1, k2, k3, hl, hB⟩ := held4_call (w := w) (c := b) g (by assumption) (by assumption) (by assumption) (by assumption) (by assumption) (by assumption); clear g) | (go_at_call 17; refine (AlongX_impl _ _ _ _ _ _).mono ?_; rintro e w' ⟨rfl, g⟩; obtain ⟨k0, k1, k2, k3, hl, hB⟩ := held4_call (w := w) (c := b) g (by assumption) (by assumption) (by assumption) (by assumption) (by assumption) (by assumption); clear g) | (go_at_call 12; refine (CurveAt_impl _ _ _ _ _ _).mono ?_; rintro e w' ⟨rfl, g⟩; obtain ⟨k0, k1, k2, k3, hl, hB⟩ := held4_call (w := w) (c := b) g (by assumption) (by assumption) (by assumption) (by assumption) (by assumption) (by assumption); clear g))
            go_ret
            exact ⟨rfl, by assumption⟩
        · by_cases hT : 0 < t1
          · obtain ⟨B, q6, B0, B1, B2⟩ := HB hT
            clear HB HU
            go_wp2_with (first | (go_at_call 22; refine (CurveOk_spec _ _ _ _ _).mono ?_; rintro e w' ⟨rfl, g⟩; obtain ⟨k0, k1, k2, k3, hl, hB⟩ := held4_call (w := w) (c := b) g (by assumption) (by assumption) (by assumption) (by assumption) (by assumption) (by assumption); clear g) | (go_at_call 13; refine (StopOf_impl _ _ _ _ _ _).mono ?_; rintro e w' ⟨rfl, g⟩; obtain ⟨k0, k1, k2, k3, hl, hB⟩ := held4_call (w := w) (c := b) g (by assumption) (by assumption) (by assumption) (by assumption) (by assumption) (by assumption); clear g) | (go_at_call 17; refine (AlongX_impl _ _ _ _ _ _).mono ?_; rintro e w' ⟨rfl, g⟩; obtain ⟨k0, k1, k2, k3, hl, hB⟩ := held4_call (w := w) (c := b) g (by assumption) (by assumption) (by assumption) (by assumption) (by assumption) (by assumption); clear g) | (go_at_call 12; refine (CurveAt_impl _ _ _ _ _ _).mono ?_; rintro e w' ⟨rfl, g⟩; obtain ⟨k0, k1, k2, k3, hl, hB⟩ := held4_call (w := w) (c := b) g (by assumption) (by assumption) (by assumption) (by assumption) (by assumption) (by assumption); clear g))
            go_ret
            exact ⟨rfl, by assumption⟩
          · clear HB HU
            go_wp2_with (first | (go_at_call 22; refine (CurveOk_spec _ _ _ _ _).mono ?_; rintro e w' ⟨rfl, g⟩; obtain ⟨k0, k1, k2, k3, hl, hB⟩ := held4_call (w := w) (c := b) g (by assumption) (by assumption) (by assumption) (by assumption) (by assumption) (by assumption); clear g) | (go_at_call 13; refine (StopOf_impl _ _ _ _ _ _).mono ?_; rintro e w' ⟨rfl, g⟩; obtain ⟨k0, k1, k2, k3, hl, hB⟩ := held4_call (w := w) (c := b) g (by assumption) (by assumption) (by assumption) (by assumption) (by assumption) (by assumption); clear g) | (go_at_call 17; refine (AlongX_impl _ _ _ _ _ _).mono ?_; rintro e w' ⟨rfl, g⟩; obtain ⟨k0, k1, k2, k3, hl, hB⟩ := held4_call (w := w) (c := b) g (by assumption) (by assumption) (by assumption) (by assumption) (by assumption) (by assumption); clear g) | (go_at_call 12; refine (CurveAt_impl _ _ _ _ _ _).mono ?_; rintro e w' ⟨rfl, g⟩; obtain ⟨k0, k1, k2, k3, hl, hB⟩ := held4_call (w := w) (c := b) g (by assumption) (by assumption) (by assumption) (by assumption) (by assumption) (by assumption); clear g))
            go_ret
            exact ⟨rfl, by assumption⟩

set_option maxRecDepth 100000 in
theorem lifted (os : Os) (started : os.Started) (H : Type) (enc : TypeId × Value → H) :
    ReturnsInHanded {} Try.checked os 3 .any (Rows.fnCurvesSpec.pre6 enc Try.prog Try.f3 Rows.fnCurvesRow.domain false) (Rows.fnCurvesSpec.post enc Try.prog Try.f3 false true false false) := by
  refine returnsInHanded_of_change (C := Try.checked) own started (by kernel_rfl) Try.func3
    (ChangeSpec.witness6 (enc := enc) (C := Try.checked) false ⟨#[], #[.slice none 0 0], []⟩ 8 (by kernel_rfl) (by kernel_rfl) (by kernel_rfl) (by kernel_rfl)) ?_
  intro W base args ds gs before hval0 hW hcnd _
  have hval : ∀ (j : Nat) t v, Try.f3.params[j]? = some t → args[j]? = some v → Value.okWide Try.prog W .any base t v := hval0
  have hW' := hW
  obtain ⟨p, q, hA0, hV, rfl, hfz, hnd⟩ := hW
  have hA : DataW.TrodAll enc Try.prog W 0 (fun _ => true) true Try.f3.params.toList args.toList ds p := hA0
  rw [Try.params3] at hA hval
  obtain ⟨v0, vs0, d0, ds0, p0, q0, hargs, rfl, rfl, h0, r0⟩ := trodAll_cons hA
  obtain ⟨rfl, rfl, rfl⟩ := trodAll_nil r0
  obtain rfl : args = #[v0] := by cases args; simp_all
  obtain ⟨rfl, rfl⟩ := trodVars_none hV
  have k0 := h0
  have lt0 : ∀ x ∈ p0, x.block < W.heap.size := by obtain ⟨m, hm⟩ := k0; exact DataW.trod_lt m _ _ _ hm
  obtain ⟨a0, len0, cap0, rfl, w0⟩ := open_bytes (hval 0 22 v0 rfl rfl) h0
  refine (walk a0 len0 cap0 W w0).mono fun e W' ⟨he, bel⟩ => ?_
  subst he
  exact ⟨_, rfl, _, _, _, [], _, [], hW', trodAll_mk1 (shut_bool Try.underlying4 _), (trodAll_cons_mk (Below.trod laidOut (by kernel_rfl) (of_decide_eq_true (by kernel_rfl)) k0 bel lt0) trodAll_mk0), rfl, bel.frame _, fun h => by cases h⟩

theorem over : Rows.fnCurvesRow.holds Try.pinned (OpenSpec.ofChange Rows.fnCurvesSpec) :=
  OpenClaim.holds_of_wide 3 Try.f3 rfl rfl rfl rfl rfl rfl rfl ⟨rfl, rfl, rfl, rfl, rfl⟩ rfl rfl rfl rfl rfl (by kernel_rfl) Try.func3 (by kernel_rfl)
    (of_decide_eq_true (by kernel_rfl)) (by unfold Func.isWrapper; first | (rw [if_pos (by decide +kernel)]; kernel_rfl) | (rw [if_neg (by decide +kernel)]; exact ⟨rfl, rfl⟩))
    (fun os started H enc _ => lifted os started H enc)

theorem proved : Rows.FnCurvesSaid := over
#print axioms proved
end Go.Proofs.Ytcapbijccecddaa.fnCurves
