/- Proved: for every slice of bytes FnSteps answers true: steps go on and on from jump to jump, as many as told, and come to One, as drawn. No condition. -/
import Derived.Test.YtebpgfhioilajaaBase3
import Derived.Test.YtebpgfhioilajaaDraw3
import Derived.Test.YtebpgfhioilajaaOpenB
import Derived.Test.YtebpgfhioilajaaRows
import Derived.WalkKit
import Derived.ProofKit
import Derived.OpenShut
import Derived.ShutString
import Derived.ChangeOld
import Derived.Below
namespace Go.Proofs.Ytebpgfhioilajaa.fnSteps
open Go.ChangeShapes Go.WideShapes Go.ChangeAt Go.RowKit
open Go.ChangeMaps (open_string shut_string)
set_option linter.unusedVariables false

theorem own : ownKnob Try.prog.godebug = none := by kernel_rfl
theorem laidOut : laidOutB Try.prog = true := by kernel_rfl

open Go.Proofs.Ytebpgfhioilajaa.P1 Go.Proofs.Ytebpgfhioilajaa.B1 Go.Proofs.Ytebpgfhioilajaa.D1 Go.Proofs.Ytebpgfhioilajaa.B2 Go.Proofs.Ytebpgfhioilajaa.P3 Go.Proofs.Ytebpgfhioilajaa.B3 Go.Proofs.Ytebpgfhioilajaa.D3
set_option maxRecDepth 100000 in
set_option maxHeartbeats 4000000 in
theorem walk (a0 : Option Addr) (len0 cap0 : Nat) (w : World) (w0 : len0 ≤ 4096 → Bytes w w.heap.size a0 len0) :
    Calls Try.prog 3 #[.slice a0 len0 cap0] w (Ans (.bool true) w) := by
  by_cases hbig : 4096 < len0
  · go_enter Try.func3, Try.ntmps3
    go_wp2
    go_ret
    exact ⟨rfl, Below.refl _ _⟩
  · have hb := w0 (by omega)
    clear w0
    go_enter Try.func3, Try.ntmps3
    go_wp2_with (first | (go_at_call 7; go_in) | fail)
    refine (StepsAt_draw _ a0 len0 cap0 hb).mono ?_
    rintro e w1 ⟨c, j, p, ⟨hp0, hp1⟩, rfl, hb1⟩
    obtain ⟨k0, k1, hl, hB⟩ := two_mk c j 25 hb1
    go_wp2_with fail
    generalize w1.alloc (.cells #[.int .i64 c, .int .i64 j] 25) = W1 at *
    generalize w1.heap.size = b at *
    clear hb1 hb
    refine (StepsAt_impl _ _ _ _).mono ?_
    rintro e W2 ⟨rfl, g⟩
    obtain ⟨k0, k1, hl, hB⟩ := held2_call g k0 k1 hl hB
    clear g
    go_wp2_with fail
    refine (JumpsOf_impl _ _ _).mono ?_
    rintro e W3 ⟨rfl, g⟩
    obtain ⟨k0, k1, hl, hB⟩ := held2_call g k0 k1 hl hB
    clear g
    go_wp2_with fail
    go_region_held3 (fun w' => w'.cell? ⟨b, 0, none⟩ = some (.int .i64 c) ∧ w'.cell? ⟨b, 1, none⟩ = some (.int .i64 j) ∧ b < w'.heap.size ∧ Below w.heap.size w w')
      (first | exact held2_drew k0 k1 hl hB | (go_split_ands; exact ⟨by assumption, by assumption, by assumption, by assumption⟩) | (go_split_ands; exact held2_call hb' (by assumption) (by assumption) (by assumption) (by assumption)))
      (first | (go_at_call 11; refine (StepsAt_spec _ _ _ _).mono ?_; rintro e w' ⟨rfl, hb'⟩) | (go_at_call 12; refine (JumpsOf_spec _ _ _).mono ?_; rintro e w' ⟨rfl, hb'⟩) | (go_at_call 13; refine (StepsOk_impl _ _ _).mono ?_; rintro e w' ⟨rfl, hb'⟩) | (go_at_call 14; refine (StepsOk_spec _ _ _).mono ?_; rintro e w' ⟨rfl, hb'⟩))
    rename_i hS
    obtain ⟨n0, n1, nl, nB⟩ := hS
    clear k0 k1 hl hB
    cases h1 : stepsOk c j
    · have q0 := stepsAt_out (p := p) (Or.inl h1)
      go_wp2_with (first | (go_at_call 14; refine (StepsOk_spec _ _ _).mono ?_; rintro e w' ⟨rfl, g⟩; obtain ⟨k0, k1, hl, hB⟩ := held2_call (w := w) (c := b) g (by assumption) (by assumption) (by assumption) (by assumption); clear g) | (go_at_call 9; refine (StepsAt_impl _ _ _ _).mono ?_; rintro e w' ⟨rfl, g⟩; obtain ⟨k0, k1, hl, hB⟩ := held2_call (w := w) (c := b) g (by assumption) (by assumption) (by assumption) (by assumption); clear g))
      go_ret
      exact ⟨rfl, by assumption⟩
    · rcases (show p < 0 ∨ (0 ≤ p ∧ 65536 < p) ∨ (0 ≤ p ∧ p ≤ 65536) from by omega) with d1 | ⟨d1, d2⟩ | ⟨d1, d2⟩
      · have q0 := stepsAt_out (c := c) (j := j) (Or.inr (within_not (Or.inl d1)))
        go_wp2_with (first | (go_at_call 14; refine (StepsOk_spec _ _ _).mono ?_; rintro e w' ⟨rfl, g⟩; obtain ⟨k0, k1, hl, hB⟩ := held2_call (w := w) (c := b) g (by assumption) (by assumption) (by assumption) (by assumption); clear g) | (go_at_call 9; refine (StepsAt_impl _ _ _ _).mono ?_; rintro e w' ⟨rfl, g⟩; obtain ⟨k0, k1, hl, hB⟩ := held2_call (w := w) (c := b) g (by assumption) (by assumption) (by assumption) (by assumption); clear g))
        go_ret
        exact ⟨rfl, by assumption⟩
      · have q0 := stepsAt_out (c := c) (j := j) (Or.inr (within_not (Or.inr d2)))
        go_wp2_with (first | (go_at_call 14; refine (StepsOk_spec _ _ _).mono ?_; rintro e w' ⟨rfl, g⟩; obtain ⟨k0, k1, hl, hB⟩ := held2_call (w := w) (c := b) g (by assumption) (by assumption) (by assumption) (by assumption); clear g) | (go_at_call 9; refine (StepsAt_impl _ _ _ _).mono ?_; rintro e w' ⟨rfl, g⟩; obtain ⟨k0, k1, hl, hB⟩ := held2_call (w := w) (c := b) g (by assumption) (by assumption) (by assumption) (by assumption); clear g))
        go_ret
        exact ⟨rfl, by assumption⟩
      · obtain ⟨X, J, m, q0, q1, J0, J1, m0, mJ, q2, X0, X1, t0, t1, q3⟩ := steps_case h1 d1 d2
        have q4 := steps_end h1
        have q5 := steps_first h1
        obtain ⟨F, q6, f0, f1⟩ : ∃ F, stepsAt c j 0 = F ∧ 0 ≤ F ∧ F ≤ 65536 := by
          obtain ⟨X', _, _, e', _, _, _, _, _, _, x0, x1, _⟩ := steps_case h1 (p := 0) (by omega) (by omega)
          exact ⟨X', e', x0, x1⟩
        rw [q6] at q5
        obtain ⟨N, q7, n7⟩ : ∃ N, (p < 65536 → stepsAt c j (p + 1) = N) ∧ (p < 65536 → X ≤ N) := ⟨stepsAt c j (p + 1), fun _ => rfl, fun hlt => q0 ▸ steps_on h1 d1 (by omega) (by omega)⟩
        by_cases hlt : p < 65536
        · have q7 := q7 hlt
          have n7 := n7 hlt
          rcases (show j = 2 ∨ j = 3 ∨ (j ≠ 2 ∧ j ≠ 3) by omega) with hj | hj | ⟨hj, hk⟩
          · have hF : F = 0 := q5.2 (Or.inl hj)
            clear q5
            subst hj
            subst hF
            go_wp2_with (first | (go_at_call 14; refine (StepsOk_spec _ _ _).mono ?_; rintro e w' ⟨rfl, g⟩; obtain ⟨k0, k1, hl, hB⟩ := held2_call (w := w) (c := b) g (by assumption) (by assumption) (by assumption) (by assumption); clear g) | (go_at_call 9; refine (StepsAt_impl _ _ _ _).mono ?_; rintro e w' ⟨rfl, g⟩; obtain ⟨k0, k1, hl, hB⟩ := held2_call (w := w) (c := b) g (by assumption) (by assumption) (by assumption) (by assumption); clear g))
            go_ret
            exact ⟨rfl, by assumption⟩
          · have hF : F = 0 := q5.2 (Or.inr hj)
            clear q5
            subst hj
            subst hF
            go_wp2_with (first | (go_at_call 14; refine (StepsOk_spec _ _ _).mono ?_; rintro e w' ⟨rfl, g⟩; obtain ⟨k0, k1, hl, hB⟩ := held2_call (w := w) (c := b) g (by assumption) (by assumption) (by assumption) (by assumption); clear g) | (go_at_call 9; refine (StepsAt_impl _ _ _ _).mono ?_; rintro e w' ⟨rfl, g⟩; obtain ⟨k0, k1, hl, hB⟩ := held2_call (w := w) (c := b) g (by assumption) (by assumption) (by assumption) (by assumption); clear g))
            go_ret
            exact ⟨rfl, by assumption⟩
          · have hF : ¬ F = 0 := fun h => (q5.1 h).elim hj hk
            clear q5
            have hj' : (j == 2) = false := by simpa using hj
            have hk' : (j == 3) = false := by simpa using hk
            have hF' : (F == 0) = false := by simpa using hF
            go_wp2_with (first | (go_at_call 14; refine (StepsOk_spec _ _ _).mono ?_; rintro e w' ⟨rfl, g⟩; obtain ⟨k0, k1, hl, hB⟩ := held2_call (w := w) (c := b) g (by assumption) (by assumption) (by assumption) (by assumption); clear g) | (go_at_call 9; refine (StepsAt_impl _ _ _ _).mono ?_; rintro e w' ⟨rfl, g⟩; obtain ⟨k0, k1, hl, hB⟩ := held2_call (w := w) (c := b) g (by assumption) (by assumption) (by assumption) (by assumption); clear g))
            go_ret
            exact ⟨rfl, by assumption⟩
        · clear q7 n7
          rcases (show j = 2 ∨ j = 3 ∨ (j ≠ 2 ∧ j ≠ 3) by omega) with hj | hj | ⟨hj, hk⟩
          · have hF : F = 0 := q5.2 (Or.inl hj)
            clear q5
            subst hj
            subst hF
            go_wp2_with (first | (go_at_call 14; refine (StepsOk_spec _ _ _).mono ?_; rintro e w' ⟨rfl, g⟩; obtain ⟨k0, k1, hl, hB⟩ := held2_call (w := w) (c := b) g (by assumption) (by assumption) (by assumption) (by assumption); clear g) | (go_at_call 9; refine (StepsAt_impl _ _ _ _).mono ?_; rintro e w' ⟨rfl, g⟩; obtain ⟨k0, k1, hl, hB⟩ := held2_call (w := w) (c := b) g (by assumption) (by assumption) (by assumption) (by assumption); clear g))
            go_ret
            exact ⟨rfl, by assumption⟩
          · have hF : F = 0 := q5.2 (Or.inr hj)
            clear q5
            subst hj
            subst hF
            go_wp2_with (first | (go_at_call 14; refine (StepsOk_spec _ _ _).mono ?_; rintro e w' ⟨rfl, g⟩; obtain ⟨k0, k1, hl, hB⟩ := held2_call (w := w) (c := b) g (by assumption) (by assumption) (by assumption) (by assumption); clear g) | (go_at_call 9; refine (StepsAt_impl _ _ _ _).mono ?_; rintro e w' ⟨rfl, g⟩; obtain ⟨k0, k1, hl, hB⟩ := held2_call (w := w) (c := b) g (by assumption) (by assumption) (by assumption) (by assumption); clear g))
            go_ret
            exact ⟨rfl, by assumption⟩
          · have hF : ¬ F = 0 := fun h => (q5.1 h).elim hj hk
            clear q5
            have hj' : (j == 2) = false := by simpa using hj
            have hk' : (j == 3) = false := by simpa using hk
            have hF' : (F == 0) = false := by simpa using hF
            go_wp2_with (first | (go_at_call 14; refine (StepsOk_spec _ _ _).mono ?_; rintro e w' ⟨rfl, g⟩; obtain ⟨k0, k1, hl, hB⟩ := held2_call (w := w) (c := b) g (by assumption) (by assumption) (by assumption) (by assumption); clear g) | (go_at_call 9; refine (StepsAt_impl _ _ _ _).mono ?_; rintro e w' ⟨rfl, g⟩; obtain ⟨k0, k1, hl, hB⟩ := held2_call (w := w) (c := b) g (by assumption) (by assumption) (by assumption) (by assumption); clear g))
            go_ret
            exact ⟨rfl, by assumption⟩

set_option maxRecDepth 100000 in
theorem lifted (os : Os) (started : os.Started) (H : Type) (enc : TypeId × Value → H) :
    ReturnsInHanded {} Try.checked os 3 .any (Rows.fnStepsSpec.pre6 enc Try.prog Try.f3 Rows.fnStepsRow.domain false) (Rows.fnStepsSpec.post enc Try.prog Try.f3 false true false false) := by
  refine returnsInHanded_of_change (C := Try.checked) own started (by kernel_rfl) Try.func3
    (ChangeSpec.witness6 (enc := enc) (C := Try.checked) false ⟨#[], #[.slice none 0 0], []⟩ 8 (by kernel_rfl) (by kernel_rfl) (by kernel_rfl) (by kernel_rfl)) ?_
  intro W base args ds gs before hval0 hW hcnd _
  have hval : ∀ (j : Nat) t v, Try.f3.params[j]? = some t → args[j]? = some v → Value.okWide Try.prog W .any base t v := hval0
  have hW' := hW
  obtain ⟨p, q, hA0, hV, rfl, hfz, hnd⟩ := hW
  have hA : DataW.TrodAll enc Try.prog W 0 (fun _ => true) true Try.f3.params.toList args.toList ds p := hA0
  rw [Try.params3] at hA hval
  obtain ⟨v0, vs0, d0, ds0, p0, q0, hargs, rfl, rfl, h0, r0⟩ := trodAll_cons hA
  obtain ⟨rfl, rfl, rfl⟩ := trodAll_nil r0
  obtain rfl : args = #[v0] := by cases args; simp_all
  obtain ⟨rfl, rfl⟩ := trodVars_none hV
  have k0 := h0
  have lt0 : ∀ x ∈ p0, x.block < W.heap.size := by obtain ⟨m, hm⟩ := k0; exact DataW.trod_lt m _ _ _ hm
  obtain ⟨a0, len0, cap0, rfl, w0⟩ := open_bytes (hval 0 22 v0 rfl rfl) h0
  refine (walk a0 len0 cap0 W w0).mono fun e W' ⟨he, bel⟩ => ?_
  subst he
  exact ⟨_, rfl, _, _, _, [], _, [], hW', trodAll_mk1 (shut_bool Try.underlying4 _), (trodAll_cons_mk (Below.trod laidOut (by kernel_rfl) (of_decide_eq_true (by kernel_rfl)) k0 bel lt0) trodAll_mk0), rfl, bel.frame _, fun h => by cases h⟩

theorem over : Rows.fnStepsRow.holds Try.pinned (OpenSpec.ofChange Rows.fnStepsSpec) :=
  OpenClaim.holds_of_wide 3 Try.f3 rfl rfl rfl rfl rfl rfl rfl ⟨rfl, rfl, rfl, rfl, rfl⟩ rfl rfl rfl rfl rfl (by kernel_rfl) Try.func3 (by kernel_rfl)
    (of_decide_eq_true (by kernel_rfl)) (by unfold Func.isWrapper; first | (rw [if_pos (by decide +kernel)]; kernel_rfl) | (rw [if_neg (by decide +kernel)]; exact ⟨rfl, rfl⟩))
    (fun os started H enc _ => lifted os started H enc)

theorem proved : Rows.FnStepsSaid := over
#print axioms proved
end Go.Proofs.Ytebpgfhioilajaa.fnSteps
