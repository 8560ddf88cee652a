/- Proved: for every slice of bytes FnOnAndOn answers true: a curve whose corners are not beyond goes on and on, and stays between; the straight one is never behind, as drawn. No condition. -/
import Derived.Test.YtcapbijccecddaaBase2c
import Derived.Test.YtcapbijccecddaaDraw2
import Derived.Test.YtcapbijccecddaaOpenB
import Derived.Test.YtcapbijccecddaaRows
import Derived.WalkKit
import Derived.ProofKit
import Derived.OpenShut
import Derived.ShutString
import Derived.ChangeOld
import Derived.Below
namespace Go.Proofs.Ytcapbijccecddaa.fnOnAndOn
open Go.ChangeShapes Go.WideShapes Go.ChangeAt Go.RowKit
open Go.ChangeMaps (open_string shut_string)
set_option linter.unusedVariables false

theorem own : ownKnob Try.prog.godebug = none := by kernel_rfl
theorem laidOut : laidOutB Try.prog = true := by kernel_rfl

open Go.Proofs.Ytcapbijccecddaa.P1 Go.Proofs.Ytcapbijccecddaa.B1 Go.Proofs.Ytcapbijccecddaa.D1 Go.Proofs.Ytcapbijccecddaa.P2 Go.Proofs.Ytcapbijccecddaa.B2 Go.Proofs.Ytcapbijccecddaa.D2
theorem only_of_below {w w' : World} (h : Below w.heap.size w w') : Only w.heap.size w w' := ⟨h.os, h.tape, h.output, h.size, fun k _ hs => h.block k hs⟩
set_option maxRecDepth 100000 in
set_option maxHeartbeats 4000000 in
theorem walk (a0 : Option Addr) (len0 cap0 : Nat) (w : World) (w0 : len0 ≤ 4096 → Bytes w w.heap.size a0 len0) :
    Calls Try.prog 4 #[.slice a0 len0 cap0] w (Ans (.bool true) w) := by
  by_cases hbig : 4096 < len0
  · go_enter Try.func4, Try.ntmps4
    go_wp2
    go_ret
    exact ⟨rfl, Below.refl _ _⟩
  · have hb := w0 (by omega)
    clear w0
    go_enter Try.func4, Try.ntmps4
    go_wp2_with (first | (go_at_call 10; go_in) | fail)
    refine (StopOf_draw _ a0 len0 cap0 hb).mono ?_
    rintro e w1 ⟨x1, y1, x2, y2, p, ⟨hp0, hp1⟩, rfl, hb1⟩
    obtain ⟨k0, k1, k2, k3, hl, hB⟩ := four_mk x1 y1 x2 y2 25 hb1
    go_wp2_with fail
    generalize w1.alloc (.cells #[.int .i64 x1, .int .i64 y1, .int .i64 x2, .int .i64 y2] 25) = W1 at *
    generalize w1.heap.size = b at *
    clear hb1
    go_region_held3 (fun w' => w'.cell? ⟨b, 0, none⟩ = some (.int .i64 x1) ∧ w'.cell? ⟨b, 1, none⟩ = some (.int .i64 y1) ∧ w'.cell? ⟨b, 2, none⟩ = some (.int .i64 x2) ∧ w'.cell? ⟨b, 3, none⟩ = some (.int .i64 y2) ∧ b < w'.heap.size ∧ Below w.heap.size w w')
      (first | exact held4_drew k0 k1 k2 k3 (by assumption) hB | (go_split_ands; exact ⟨by assumption, by assumption, by assumption, by assumption, by assumption, by assumption⟩) | (go_split_ands; exact held4_call hb' (by assumption) (by assumption) (by assumption) (by assumption) (by assumption) (by assumption)))
      (first | (go_at_call 16; refine (StopOf_spec _ _ _ _ _ _).mono ?_; rintro e w' ⟨rfl, hb'⟩) | (go_at_call 13; refine (StopOf_impl _ _ _ _ _ _).mono ?_; rintro e w' ⟨rfl, hb'⟩))
    rename_i hS
    obtain ⟨n0, n1, n2, n3, nl, nB⟩ := hS
    clear k0 k1 k2 k3 hl hB
    cases h1 : curveOk x1 y1 x2 y2
    · go_wp2_with (first | (go_at_call 22; refine (CurveOk_spec _ _ _ _ _).mono ?_; rintro e w' ⟨rfl, g⟩; obtain ⟨k0, k1, k2, k3, hl, hB⟩ := held4_call (w := w) (c := b) g (by assumption) (by assumption) (by assumption) (by assumption) (by assumption) (by assumption); clear g) | (go_at_call 12; refine (CurveAt_impl _ _ _ _ _ _).mono ?_; rintro e w' ⟨rfl, g⟩; obtain ⟨k0, k1, k2, k3, hl, hB⟩ := held4_call (w := w) (c := b) g (by assumption) (by assumption) (by assumption) (by assumption) (by assumption) (by assumption); clear g))
      go_ret
      exact ⟨rfl, by assumption⟩
    · rcases (show p < 0 ∨ (0 ≤ p ∧ 65536 < p) ∨ (0 ≤ p ∧ p ≤ 65536) from by omega) with d1 | ⟨d1, d2⟩ | ⟨d1, d2⟩
      · go_wp2_with (first | (go_at_call 22; refine (CurveOk_spec _ _ _ _ _).mono ?_; rintro e w' ⟨rfl, g⟩; obtain ⟨k0, k1, k2, k3, hl, hB⟩ := held4_call (w := w) (c := b) g (by assumption) (by assumption) (by assumption) (by assumption) (by assumption) (by assumption); clear g) | (go_at_call 12; refine (CurveAt_impl _ _ _ _ _ _).mono ?_; rintro e w' ⟨rfl, g⟩; obtain ⟨k0, k1, k2, k3, hl, hB⟩ := held4_call (w := w) (c := b) g (by assumption) (by assumption) (by assumption) (by assumption) (by assumption) (by assumption); clear g))
        go_ret
        exact ⟨rfl, by assumption⟩
      · go_wp2_with (first | (go_at_call 22; refine (CurveOk_spec _ _ _ _ _).mono ?_; rintro e w' ⟨rfl, g⟩; obtain ⟨k0, k1, k2, k3, hl, hB⟩ := held4_call (w := w) (c := b) g (by assumption) (by assumption) (by assumption) (by assumption) (by assumption) (by assumption); clear g) | (go_at_call 12; refine (CurveAt_impl _ _ _ _ _ _).mono ?_; rintro e w' ⟨rfl, g⟩; obtain ⟨k0, k1, k2, k3, hl, hB⟩ := held4_call (w := w) (c := b) g (by assumption) (by assumption) (by assumption) (by assumption) (by assumption) (by assumption); clear g))
        go_ret
        exact ⟨rfl, by assumption⟩
      · obtain ⟨a0', a1', b0', b1', _, _, _, _⟩ := curveOk_true h1
        obtain ⟨st0, st1⟩ := straight a0' a1' b0' b1' d1 d2
        clear a0' a1' b0' b1'
        rcases (show y1 < 0 ∨ (0 ≤ y1 ∧ 100 < y1) ∨ (0 ≤ y1 ∧ y1 ≤ 100) from by omega) with f1 | ⟨f1, f2⟩ | ⟨f1, f2⟩
        · go_wp2_with (first | (go_at_call 22; refine (CurveOk_spec _ _ _ _ _).mono ?_; rintro e w' ⟨rfl, g⟩; obtain ⟨k0, k1, k2, k3, hl, hB⟩ := held4_call (w := w) (c := b) g (by assumption) (by assumption) (by assumption) (by assumption) (by assumption) (by assumption); clear g) | (go_at_call 12; refine (CurveAt_impl _ _ _ _ _ _).mono ?_; rintro e w' ⟨rfl, g⟩; obtain ⟨k0, k1, k2, k3, hl, hB⟩ := held4_call (w := w) (c := b) g (by assumption) (by assumption) (by assumption) (by assumption) (by assumption) (by assumption); clear g))
          go_ret
          exact ⟨rfl, by assumption⟩
        · go_wp2_with (first | (go_at_call 22; refine (CurveOk_spec _ _ _ _ _).mono ?_; rintro e w' ⟨rfl, g⟩; obtain ⟨k0, k1, k2, k3, hl, hB⟩ := held4_call (w := w) (c := b) g (by assumption) (by assumption) (by assumption) (by assumption) (by assumption) (by assumption); clear g) | (go_at_call 12; refine (CurveAt_impl _ _ _ _ _ _).mono ?_; rintro e w' ⟨rfl, g⟩; obtain ⟨k0, k1, k2, k3, hl, hB⟩ := held4_call (w := w) (c := b) g (by assumption) (by assumption) (by assumption) (by assumption) (by assumption) (by assumption); clear g))
          go_ret
          exact ⟨rfl, by assumption⟩
        · rcases (show y2 < 0 ∨ (0 ≤ y2 ∧ 100 < y2) ∨ (0 ≤ y2 ∧ y2 ≤ 100) from by omega) with f3 | ⟨f3, f4⟩ | ⟨f3, f4⟩
          · go_wp2_with (first | (go_at_call 22; refine (CurveOk_spec _ _ _ _ _).mono ?_; rintro e w' ⟨rfl, g⟩; obtain ⟨k0, k1, k2, k3, hl, hB⟩ := held4_call (w := w) (c := b) g (by assumption) (by assumption) (by assumption) (by assumption) (by assumption) (by assumption); clear g) | (go_at_call 12; refine (CurveAt_impl _ _ _ _ _ _).mono ?_; rintro e w' ⟨rfl, g⟩; obtain ⟨k0, k1, k2, k3, hl, hB⟩ := held4_call (w := w) (c := b) g (by assumption) (by assumption) (by assumption) (by assumption) (by assumption) (by assumption); clear g))
            go_ret
            exact ⟨rfl, by assumption⟩
          · go_wp2_with (first | (go_at_call 22; refine (CurveOk_spec _ _ _ _ _).mono ?_; rintro e w' ⟨rfl, g⟩; obtain ⟨k0, k1, k2, k3, hl, hB⟩ := held4_call (w := w) (c := b) g (by assumption) (by assumption) (by assumption) (by assumption) (by assumption) (by assumption); clear g) | (go_at_call 12; refine (CurveAt_impl _ _ _ _ _ _).mono ?_; rintro e w' ⟨rfl, g⟩; obtain ⟨k0, k1, k2, k3, hl, hB⟩ := held4_call (w := w) (c := b) g (by assumption) (by assumption) (by assumption) (by assumption) (by assumption) (by assumption); clear g))
            go_ret
            exact ⟨rfl, by assumption⟩
          · obtain ⟨z0, z1⟩ := curve_between h1 f1 f2 f3 f4 d1 d2
            have HO := Lib.hid (fun (q : Int) (h0 : 0 ≤ q) (h2 : q ≤ p) => curve_on h1 f1 f2 f3 f4 h0 h2 d2)
            have HP := Lib.hid (fun (q : Int) (h0 : p ≤ q) (h2 : q ≤ 65536) => curve_on h1 f1 f2 f3 f4 d1 h0 h2)
            go_wp2_with (first | (go_at_call 22; refine (CurveOk_spec _ _ _ _ _).mono ?_; rintro e w' ⟨rfl, g⟩; obtain ⟨k0, k1, k2, k3, hl, hB⟩ := held4_call (w := w) (c := b) g (by assumption) (by assumption) (by assumption) (by assumption) (by assumption) (by assumption); clear g) | (go_at_call 12; refine (CurveAt_impl _ _ _ _ _ _).mono ?_; rintro e w' ⟨rfl, g⟩; obtain ⟨k0, k1, k2, k3, hl, hB⟩ := held4_call (w := w) (c := b) g (by assumption) (by assumption) (by assumption) (by assumption) (by assumption) (by assumption); clear g))
            refine (Pick_laws _ w.heap.size a0 len0 cap0 1 65537 (hb.only (c := w.heap.size) (only_of_below (by assumption))) (by omega) (by omega) (by omega) (by omega)).mono ?_
            rintro e W9 ⟨q, hq0, hq1, rfl, rfl⟩
            by_cases hqp : q ≤ p
            · have hy := HO.out q hq0 hqp
              clear HO HP
              go_wp2_with (first | (go_at_call 22; refine (CurveOk_spec _ _ _ _ _).mono ?_; rintro e w' ⟨rfl, g⟩; obtain ⟨k0, k1, k2, k3, hl, hB⟩ := held4_call (w := w) (c := b) g (by assumption) (by assumption) (by assumption) (by assumption) (by assumption) (by assumption); clear g) | (go_at_call 12; refine (CurveAt_impl _ _ _ _ _ _).mono ?_; rintro e w' ⟨rfl, g⟩; obtain ⟨k0, k1, k2, k3, hl, hB⟩ := held4_call (w := w) (c := b) g (by assumption) (by assumption) (by assumption) (by assumption) (by assumption) (by assumption); clear g))
              go_ret
              exact ⟨rfl, by assumption⟩
            · have hy := HP.out q (by omega) (by omega)
              clear HO HP
              go_wp2_with (first | (go_at_call 22; refine (CurveOk_spec _ _ _ _ _).mono ?_; rintro e w' ⟨rfl, g⟩; obtain ⟨k0, k1, k2, k3, hl, hB⟩ := held4_call (w := w) (c := b) g (by assumption) (by assumption) (by assumption) (by assumption) (by assumption) (by assumption); clear g) | (go_at_call 12; refine (CurveAt_impl _ _ _ _ _ _).mono ?_; rintro e w' ⟨rfl, g⟩; obtain ⟨k0, k1, k2, k3, hl, hB⟩ := held4_call (w := w) (c := b) g (by assumption) (by assumption) (by assumption) (by assumption) (by assumption) (by assumption); clear g))
              go_ret
              exact ⟨rfl, by assumption⟩

set_option maxRecDepth 100000 in
theorem lifted (os : Os) (started : os.Started) (H : Type) (enc : TypeId × Value → H) :
    ReturnsInHanded {} Try.checked os 4 .any (Rows.fnOnAndOnSpec.pre6 enc Try.prog Try.f4 Rows.fnOnAndOnRow.domain false) (Rows.fnOnAndOnSpec.post enc Try.prog Try.f4 false true false false) := by
  refine returnsInHanded_of_change (C := Try.checked) own started (by kernel_rfl) Try.func4
    (ChangeSpec.witness6 (enc := enc) (C := Try.checked) false ⟨#[], #[.slice none 0 0], []⟩ 8 (by kernel_rfl) (by kernel_rfl) (by kernel_rfl) (by kernel_rfl)) ?_
  intro W base args ds gs before hval0 hW hcnd _
  have hval : ∀ (j : Nat) t v, Try.f4.params[j]? = some t → args[j]? = some v → Value.okWide Try.prog W .any base t v := hval0
  have hW' := hW
  obtain ⟨p, q, hA0, hV, rfl, hfz, hnd⟩ := hW
  have hA : DataW.TrodAll enc Try.prog W 0 (fun _ => true) true Try.f4.params.toList args.toList ds p := hA0
  rw [Try.params4] at hA hval
  obtain ⟨v0, vs0, d0, ds0, p0, q0, hargs, rfl, rfl, h0, r0⟩ := trodAll_cons hA
  obtain ⟨rfl, rfl, rfl⟩ := trodAll_nil r0
  obtain rfl : args = #[v0] := by cases args; simp_all
  obtain ⟨rfl, rfl⟩ := trodVars_none hV
  have k0 := h0
  have lt0 : ∀ x ∈ p0, x.block < W.heap.size := by obtain ⟨m, hm⟩ := k0; exact DataW.trod_lt m _ _ _ hm
  obtain ⟨a0, len0, cap0, rfl, w0⟩ := open_bytes (hval 0 22 v0 rfl rfl) h0
  refine (walk a0 len0 cap0 W w0).mono fun e W' ⟨he, bel⟩ => ?_
  subst he
  exact ⟨_, rfl, _, _, _, [], _, [], hW', trodAll_mk1 (shut_bool Try.underlying4 _), (trodAll_cons_mk (Below.trod laidOut (by kernel_rfl) (of_decide_eq_true (by kernel_rfl)) k0 bel lt0) trodAll_mk0), rfl, bel.frame _, fun h => by cases h⟩

theorem over : Rows.fnOnAndOnRow.holds Try.pinned (OpenSpec.ofChange Rows.fnOnAndOnSpec) :=
  OpenClaim.holds_of_wide 4 Try.f4 rfl rfl rfl rfl rfl rfl rfl ⟨rfl, rfl, rfl, rfl, rfl⟩ rfl rfl rfl rfl rfl (by kernel_rfl) Try.func4 (by kernel_rfl)
    (of_decide_eq_true (by kernel_rfl)) (by unfold Func.isWrapper; first | (rw [if_pos (by decide +kernel)]; kernel_rfl) | (rw [if_neg (by decide +kernel)]; exact ⟨rfl, rfl⟩))
    (fun os started H enc _ => lifted os started H enc)

theorem proved : Rows.FnOnAndOnSaid := over
#print axioms proved
end Go.Proofs.Ytcapbijccecddaa.fnOnAndOn
