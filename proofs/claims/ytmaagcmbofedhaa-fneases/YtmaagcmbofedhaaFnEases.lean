/- Proved: for every slice of bytes FnEases answers true: each ease comes to One, and steps and the line from nothing, as drawn. No condition. -/
import Derived.Test.YtmaagcmbofedhaaHeld7
import Derived.Test.YtmaagcmbofedhaaBase4i
import Derived.Test.YtmaagcmbofedhaaPlain4b
import Derived.Test.YtmaagcmbofedhaaDraw4
import Derived.Test.YtmaagcmbofedhaaOpenB
import Derived.Test.YtmaagcmbofedhaaRows
import Derived.WalkKit
import Derived.ProofKit
import Derived.OpenShut
import Derived.ShutString
import Derived.ChangeOld
import Derived.Below
namespace Go.Proofs.Ytmaagcmbofedhaa.fnEases
open Go.ChangeShapes Go.WideShapes Go.ChangeAt Go.RowKit
open Go.ChangeMaps (open_string shut_string)
set_option linter.unusedVariables false

theorem own : ownKnob Try.prog.godebug = none := by kernel_rfl
theorem laidOut : laidOutB Try.prog = true := by kernel_rfl

open Go.Proofs.Ytmaagcmbofedhaa.P1 Go.Proofs.Ytmaagcmbofedhaa.B1 Go.Proofs.Ytmaagcmbofedhaa.P2 Go.Proofs.Ytmaagcmbofedhaa.B2 Go.Proofs.Ytmaagcmbofedhaa.P3 Go.Proofs.Ytmaagcmbofedhaa.B3 Go.Proofs.Ytmaagcmbofedhaa.T1 Go.Proofs.Ytmaagcmbofedhaa.BT Go.Proofs.Ytmaagcmbofedhaa.P4 Go.Proofs.Ytmaagcmbofedhaa.B4 Go.Proofs.Ytmaagcmbofedhaa.D1 Go.Proofs.Ytmaagcmbofedhaa.D4
set_option maxRecDepth 100000 in
set_option maxHeartbeats 4000000 in
theorem walk (a0 : Option Addr) (len0 cap0 : Nat) (w : World) (w0 : len0 ≤ 4096 → Bytes w w.heap.size a0 len0) :
    Calls Try.prog 3 #[.slice a0 len0 cap0] w (Ans (.bool true) w) := by
  by_cases hbig : 4096 < len0
  · go_enter Try.func3, Try.ntmps3
    go_wp2
    go_ret
    exact ⟨rfl, Below.refl _ _⟩
  · have hb := w0 (by omega)
    clear w0
    go_enter Try.func3, Try.ntmps3
    go_wp2_with (first | (go_at_call 6; go_in) | fail)
    refine (EasedBy_draw _ a0 len0 cap0 hb).mono ?_
    rintro e w1 ⟨⟨k, x1, y1, x2, y2, c, j⟩, p, ⟨hp0, hp1⟩, rfl, hb1⟩
    unfold easeV
    obtain ⟨k0, k1, k2, k3, k4, k5, k6, hl, hB⟩ := seven_new (.int .i64 k) (.int .i64 x1) (.int .i64 y1) (.int .i64 x2) (.int .i64 y2) (.int .i64 c) (.int .i64 j) 29 hb1
    go_wp2_with fail
    generalize w1.alloc (.cells #[.int .i64 k, .int .i64 x1, .int .i64 y1, .int .i64 x2, .int .i64 y2, .int .i64 c, .int .i64 j] 29) = W1 at *
    generalize w1.heap.size = b at *
    clear hb1 hb
    refine (EasedBy_impl _ _ _ _ _ _ _ _ _).mono ?_
    rintro e W2 ⟨rfl, g⟩
    obtain ⟨k0, k1, k2, k3, k4, k5, k6, hl, hB⟩ := held7_call g k0 k1 k2 k3 k4 k5 k6 hl hB
    clear g
    go_wp2_with fail
    go_region_held3 (fun w' => w'.cell? ⟨b, 0, none⟩ = some (.int .i64 k) ∧ w'.cell? ⟨b, 1, none⟩ = some (.int .i64 x1) ∧ w'.cell? ⟨b, 2, none⟩ = some (.int .i64 y1) ∧ w'.cell? ⟨b, 3, none⟩ = some (.int .i64 x2) ∧ w'.cell? ⟨b, 4, none⟩ = some (.int .i64 y2) ∧ w'.cell? ⟨b, 5, none⟩ = some (.int .i64 c) ∧ w'.cell? ⟨b, 6, none⟩ = some (.int .i64 j) ∧ b < w'.heap.size ∧ Below w.heap.size w w')
      (first | with_reducible exact held7_drew k0 k1 k2 k3 k4 k5 k6 hl hB | (go_split_ands; with_reducible exact held7_call hb' (by assumption) (by assumption) (by assumption) (by assumption) (by assumption) (by assumption) (by assumption) (by assumption) (by assumption)))
      (first | (go_at_call 9; refine (EasedBy_spec _ _ _ _ _ _ _ _ _).mono ?_; rintro e w' ⟨rfl, hb'⟩) | (go_at_call 10; refine (EaseOk_impl _ _ _ _ _ _ _ _).mono ?_; rintro e w' ⟨rfl, hb'⟩) | (go_at_call 11; refine (EaseOk_spec _ _ _ _ _ _ _ _).mono ?_; rintro e w' ⟨rfl, hb'⟩))
    rename_i hS
    obtain ⟨m0, m1, m2, m3, m4, m5, m6, ml, mB⟩ := hS
    clear k0 k1 k2 k3 k4 k5 k6 hl hB
    cases h1 : easeOk k x1 y1 x2 y2 c j
    · have q0 := easedBy_out (p := p) (Or.inl h1)
      go_wp2_with (first | (go_at_call 11; refine (EaseOk_spec _ _ _ _ _ _ _ _).mono ?_; rintro e w' ⟨rfl, g⟩; obtain ⟨k0, k1, k2, k3, k4, k5, k6, hl, hB⟩ := held7_call (w := w) (b := b) g (by assumption) (by assumption) (by assumption) (by assumption) (by assumption) (by assumption) (by assumption) (by assumption) (by assumption); clear g) | (go_at_call 8; refine (EasedBy_impl _ _ _ _ _ _ _ _ _).mono ?_; rintro e w' ⟨rfl, g⟩; obtain ⟨k0, k1, k2, k3, k4, k5, k6, hl, hB⟩ := held7_call (w := w) (b := b) g (by assumption) (by assumption) (by assumption) (by assumption) (by assumption) (by assumption) (by assumption) (by assumption) (by assumption); clear g) | (go_at_call 12; refine (CurveAt_spec _ _ _ _ _ _).mono ?_; rintro e w' ⟨rfl, g⟩; obtain ⟨k0, k1, k2, k3, k4, k5, k6, hl, hB⟩ := held7_call (w := w) (b := b) g (by assumption) (by assumption) (by assumption) (by assumption) (by assumption) (by assumption) (by assumption) (by assumption) (by assumption); clear g) | (go_at_call 13; refine (StepsAt_spec _ _ _ _).mono ?_; rintro e w' ⟨rfl, g⟩; obtain ⟨k0, k1, k2, k3, k4, k5, k6, hl, hB⟩ := held7_call (w := w) (b := b) g (by assumption) (by assumption) (by assumption) (by assumption) (by assumption) (by assumption) (by assumption) (by assumption) (by assumption); clear g))
      go_ret
      exact ⟨rfl, by assumption⟩
    · rcases (show p < 0 ∨ (0 ≤ p ∧ 65536 < p) ∨ (0 ≤ p ∧ p ≤ 65536) from by omega) with d1 | ⟨d1, d2⟩ | ⟨d1, d2⟩
      · have q0 := easedBy_out (k := k) (x1 := x1) (y1 := y1) (x2 := x2) (y2 := y2) (c := c) (j := j) (Or.inr (within_not (Or.inl d1)))
        go_wp2_with (first | (go_at_call 11; refine (EaseOk_spec _ _ _ _ _ _ _ _).mono ?_; rintro e w' ⟨rfl, g⟩; obtain ⟨k0, k1, k2, k3, k4, k5, k6, hl, hB⟩ := held7_call (w := w) (b := b) g (by assumption) (by assumption) (by assumption) (by assumption) (by assumption) (by assumption) (by assumption) (by assumption) (by assumption); clear g) | (go_at_call 8; refine (EasedBy_impl _ _ _ _ _ _ _ _ _).mono ?_; rintro e w' ⟨rfl, g⟩; obtain ⟨k0, k1, k2, k3, k4, k5, k6, hl, hB⟩ := held7_call (w := w) (b := b) g (by assumption) (by assumption) (by assumption) (by assumption) (by assumption) (by assumption) (by assumption) (by assumption) (by assumption); clear g) | (go_at_call 12; refine (CurveAt_spec _ _ _ _ _ _).mono ?_; rintro e w' ⟨rfl, g⟩; obtain ⟨k0, k1, k2, k3, k4, k5, k6, hl, hB⟩ := held7_call (w := w) (b := b) g (by assumption) (by assumption) (by assumption) (by assumption) (by assumption) (by assumption) (by assumption) (by assumption) (by assumption); clear g) | (go_at_call 13; refine (StepsAt_spec _ _ _ _).mono ?_; rintro e w' ⟨rfl, g⟩; obtain ⟨k0, k1, k2, k3, k4, k5, k6, hl, hB⟩ := held7_call (w := w) (b := b) g (by assumption) (by assumption) (by assumption) (by assumption) (by assumption) (by assumption) (by assumption) (by assumption) (by assumption); clear g))
        go_ret
        exact ⟨rfl, by assumption⟩
      · have q0 := easedBy_out (k := k) (x1 := x1) (y1 := y1) (x2 := x2) (y2 := y2) (c := c) (j := j) (Or.inr (within_not (Or.inr d2)))
        go_wp2_with (first | (go_at_call 11; refine (EaseOk_spec _ _ _ _ _ _ _ _).mono ?_; rintro e w' ⟨rfl, g⟩; obtain ⟨k0, k1, k2, k3, k4, k5, k6, hl, hB⟩ := held7_call (w := w) (b := b) g (by assumption) (by assumption) (by assumption) (by assumption) (by assumption) (by assumption) (by assumption) (by assumption) (by assumption); clear g) | (go_at_call 8; refine (EasedBy_impl _ _ _ _ _ _ _ _ _).mono ?_; rintro e w' ⟨rfl, g⟩; obtain ⟨k0, k1, k2, k3, k4, k5, k6, hl, hB⟩ := held7_call (w := w) (b := b) g (by assumption) (by assumption) (by assumption) (by assumption) (by assumption) (by assumption) (by assumption) (by assumption) (by assumption); clear g) | (go_at_call 12; refine (CurveAt_spec _ _ _ _ _ _).mono ?_; rintro e w' ⟨rfl, g⟩; obtain ⟨k0, k1, k2, k3, k4, k5, k6, hl, hB⟩ := held7_call (w := w) (b := b) g (by assumption) (by assumption) (by assumption) (by assumption) (by assumption) (by assumption) (by assumption) (by assumption) (by assumption); clear g) | (go_at_call 13; refine (StepsAt_spec _ _ _ _).mono ?_; rintro e w' ⟨rfl, g⟩; obtain ⟨k0, k1, k2, k3, k4, k5, k6, hl, hB⟩ := held7_call (w := w) (b := b) g (by assumption) (by assumption) (by assumption) (by assumption) (by assumption) (by assumption) (by assumption) (by assumption) (by assumption); clear g))
        go_ret
        exact ⟨rfl, by assumption⟩
      · have q1 := eased_one h1
        have hw := within_mk d1 d2
        rcases easeOk_true h1 with ⟨rfl, -⟩ | ⟨rfl, -⟩ | ⟨rfl, -⟩
        · have q0 := eased_line h1 hw
          go_wp2_with (first | (go_at_call 11; refine (EaseOk_spec _ _ _ _ _ _ _ _).mono ?_; rintro e w' ⟨rfl, g⟩; obtain ⟨k0, k1, k2, k3, k4, k5, k6, hl, hB⟩ := held7_call (w := w) (b := b) g (by assumption) (by assumption) (by assumption) (by assumption) (by assumption) (by assumption) (by assumption) (by assumption) (by assumption); clear g) | (go_at_call 8; refine (EasedBy_impl _ _ _ _ _ _ _ _ _).mono ?_; rintro e w' ⟨rfl, g⟩; obtain ⟨k0, k1, k2, k3, k4, k5, k6, hl, hB⟩ := held7_call (w := w) (b := b) g (by assumption) (by assumption) (by assumption) (by assumption) (by assumption) (by assumption) (by assumption) (by assumption) (by assumption); clear g) | (go_at_call 12; refine (CurveAt_spec _ _ _ _ _ _).mono ?_; rintro e w' ⟨rfl, g⟩; obtain ⟨k0, k1, k2, k3, k4, k5, k6, hl, hB⟩ := held7_call (w := w) (b := b) g (by assumption) (by assumption) (by assumption) (by assumption) (by assumption) (by assumption) (by assumption) (by assumption) (by assumption); clear g) | (go_at_call 13; refine (StepsAt_spec _ _ _ _).mono ?_; rintro e w' ⟨rfl, g⟩; obtain ⟨k0, k1, k2, k3, k4, k5, k6, hl, hB⟩ := held7_call (w := w) (b := b) g (by assumption) (by assumption) (by assumption) (by assumption) (by assumption) (by assumption) (by assumption) (by assumption) (by assumption); clear g))
          go_ret
          exact ⟨rfl, by assumption⟩
        · have q0 := eased_curve h1 hw
          have q2 := eased_zero h1
          go_wp2_with (first | (go_at_call 11; refine (EaseOk_spec _ _ _ _ _ _ _ _).mono ?_; rintro e w' ⟨rfl, g⟩; obtain ⟨k0, k1, k2, k3, k4, k5, k6, hl, hB⟩ := held7_call (w := w) (b := b) g (by assumption) (by assumption) (by assumption) (by assumption) (by assumption) (by assumption) (by assumption) (by assumption) (by assumption); clear g) | (go_at_call 8; refine (EasedBy_impl _ _ _ _ _ _ _ _ _).mono ?_; rintro e w' ⟨rfl, g⟩; obtain ⟨k0, k1, k2, k3, k4, k5, k6, hl, hB⟩ := held7_call (w := w) (b := b) g (by assumption) (by assumption) (by assumption) (by assumption) (by assumption) (by assumption) (by assumption) (by assumption) (by assumption); clear g) | (go_at_call 12; refine (CurveAt_spec _ _ _ _ _ _).mono ?_; rintro e w' ⟨rfl, g⟩; obtain ⟨k0, k1, k2, k3, k4, k5, k6, hl, hB⟩ := held7_call (w := w) (b := b) g (by assumption) (by assumption) (by assumption) (by assumption) (by assumption) (by assumption) (by assumption) (by assumption) (by assumption); clear g) | (go_at_call 13; refine (StepsAt_spec _ _ _ _).mono ?_; rintro e w' ⟨rfl, g⟩; obtain ⟨k0, k1, k2, k3, k4, k5, k6, hl, hB⟩ := held7_call (w := w) (b := b) g (by assumption) (by assumption) (by assumption) (by assumption) (by assumption) (by assumption) (by assumption) (by assumption) (by assumption); clear g))
          go_ret
          exact ⟨rfl, by assumption⟩
        · have q0 := eased_steps h1 hw
          go_wp2_with (first | (go_at_call 11; refine (EaseOk_spec _ _ _ _ _ _ _ _).mono ?_; rintro e w' ⟨rfl, g⟩; obtain ⟨k0, k1, k2, k3, k4, k5, k6, hl, hB⟩ := held7_call (w := w) (b := b) g (by assumption) (by assumption) (by assumption) (by assumption) (by assumption) (by assumption) (by assumption) (by assumption) (by assumption); clear g) | (go_at_call 8; refine (EasedBy_impl _ _ _ _ _ _ _ _ _).mono ?_; rintro e w' ⟨rfl, g⟩; obtain ⟨k0, k1, k2, k3, k4, k5, k6, hl, hB⟩ := held7_call (w := w) (b := b) g (by assumption) (by assumption) (by assumption) (by assumption) (by assumption) (by assumption) (by assumption) (by assumption) (by assumption); clear g) | (go_at_call 12; refine (CurveAt_spec _ _ _ _ _ _).mono ?_; rintro e w' ⟨rfl, g⟩; obtain ⟨k0, k1, k2, k3, k4, k5, k6, hl, hB⟩ := held7_call (w := w) (b := b) g (by assumption) (by assumption) (by assumption) (by assumption) (by assumption) (by assumption) (by assumption) (by assumption) (by assumption); clear g) | (go_at_call 13; refine (StepsAt_spec _ _ _ _).mono ?_; rintro e w' ⟨rfl, g⟩; obtain ⟨k0, k1, k2, k3, k4, k5, k6, hl, hB⟩ := held7_call (w := w) (b := b) g (by assumption) (by assumption) (by assumption) (by assumption) (by assumption) (by assumption) (by assumption) (by assumption) (by assumption); clear g))
          go_ret
          exact ⟨rfl, by assumption⟩

set_option maxRecDepth 100000 in
theorem lifted (os : Os) (started : os.Started) (H : Type) (enc : TypeId × Value → H) :
    ReturnsInHanded {} Try.checked os 3 .any (Rows.fnEasesSpec.pre6 enc Try.prog Try.f3 Rows.fnEasesRow.domain false) (Rows.fnEasesSpec.post enc Try.prog Try.f3 false true false false) := by
  refine returnsInHanded_of_change (C := Try.checked) own started (by kernel_rfl) Try.func3
    (ChangeSpec.witness6 (enc := enc) (C := Try.checked) false ⟨#[], #[.slice none 0 0], []⟩ 8 (by kernel_rfl) (by kernel_rfl) (by kernel_rfl) (by kernel_rfl)) ?_
  intro W base args ds gs before hval0 hW hcnd _
  have hval : ∀ (j : Nat) t v, Try.f3.params[j]? = some t → args[j]? = some v → Value.okWide Try.prog W .any base t v := hval0
  have hW' := hW
  obtain ⟨p, q, hA0, hV, rfl, hfz, hnd⟩ := hW
  have hA : DataW.TrodAll enc Try.prog W 0 (fun _ => true) true Try.f3.params.toList args.toList ds p := hA0
  rw [Try.params3] at hA hval
  obtain ⟨v0, vs0, d0, ds0, p0, q0, hargs, rfl, rfl, h0, r0⟩ := trodAll_cons hA
  obtain ⟨rfl, rfl, rfl⟩ := trodAll_nil r0
  obtain rfl : args = #[v0] := by cases args; simp_all
  obtain ⟨rfl, rfl⟩ := trodVars_none hV
  have k0 := h0
  have lt0 : ∀ x ∈ p0, x.block < W.heap.size := by obtain ⟨m, hm⟩ := k0; exact DataW.trod_lt m _ _ _ hm
  obtain ⟨a0, len0, cap0, rfl, w0⟩ := open_bytes (hval 0 22 v0 rfl rfl) h0
  refine (walk a0 len0 cap0 W w0).mono fun e W' ⟨he, bel⟩ => ?_
  subst he
  exact ⟨_, rfl, _, _, _, [], _, [], hW', trodAll_mk1 (shut_bool Try.underlying4 _), (trodAll_cons_mk (Below.trod laidOut (by kernel_rfl) (of_decide_eq_true (by kernel_rfl)) k0 bel lt0) trodAll_mk0), rfl, bel.frame _, fun h => by cases h⟩

theorem over : Rows.fnEasesRow.holds Try.pinned (OpenSpec.ofChange Rows.fnEasesSpec) :=
  OpenClaim.holds_of_wide 3 Try.f3 rfl rfl rfl rfl rfl rfl rfl ⟨rfl, rfl, rfl, rfl, rfl⟩ rfl rfl rfl rfl rfl (by kernel_rfl) Try.func3 (by kernel_rfl)
    (of_decide_eq_true (by kernel_rfl)) (by unfold Func.isWrapper; first | (rw [if_pos (by decide +kernel)]; kernel_rfl) | (rw [if_neg (by decide +kernel)]; exact ⟨rfl, rfl⟩))
    (fun os started H enc _ => lifted os started H enc)

theorem proved : Rows.FnEasesSaid := over
#print axioms proved
end Go.Proofs.Ytmaagcmbofedhaa.fnEases
