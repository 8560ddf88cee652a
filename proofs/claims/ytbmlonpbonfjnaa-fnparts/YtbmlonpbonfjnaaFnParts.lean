/- Proved: for every slice of bytes FnParts answers true: a part goes from nothing to all, on and on, and the other one is what it lacks, as drawn. No condition. -/
import Derived.Test.YtbmlonpbonfjnaaDraw1
import Derived.Test.YtbmlonpbonfjnaaRows
import Derived.WalkKit
import Derived.ProofKit
import Derived.OpenShut
import Derived.ShutString
import Derived.ChangeOld
import Derived.Below
namespace Go.Proofs.Ytbmlonpbonfjnaa.fnParts
open Go.ChangeShapes Go.WideShapes Go.ChangeAt Go.RowKit
open Go.ChangeMaps (open_string shut_string)
set_option linter.unusedVariables false

theorem own : ownKnob Try.prog.godebug = none := by kernel_rfl
theorem laidOut : laidOutB Try.prog = true := by kernel_rfl

/-- WHAT THE WALK IS TOLD OF A SLICE OF INTEGERS THAT CAME IN: it is nil; or it leads to a row of 'cap' cells, the numbers 'zs' (the first 'len' are its elements, the rest its spare room), each fitting its kind. -/
def IsRow (k : IntKind) (w : World) (a : Option Addr) (len cap : Nat) (zs : List Int) : Prop :=
  (a = none ∧ len = 0 ∧ cap = 0 ∧ zs = []) ∨
  ∃ x, a = some x ∧ len ≤ cap ∧ cap ≤ maxLen ∧ zs.length = cap ∧ (∀ i, i < zs.length → w.cell? (x.add i) = some (.int k (zs.getD i 0))) ∧ ∀ n ∈ zs, (Lit.int k n).wf = true

open Go.Proofs.Ytbmlonpbonfjnaa.P1 Go.Proofs.Ytbmlonpbonfjnaa.B1 Go.Proofs.Ytbmlonpbonfjnaa.D1
theorem bytes_of {w : World} {a : Option Addr} {len cap : Nat} {zs : List Int} (h : IsRow .u8 w a len cap zs) (hl : len ≤ 4096) : Bytes w w.heap.size a len := by
  refine ⟨hl, fun i hi => ?_⟩
  rcases h with ⟨_, h0, _, _⟩ | ⟨x, rfl, hlc, hm, hz, hcell, hwf⟩
  · omega
  · obtain ⟨b, off, rfl, hc⟩ := ints_at hcell (by omega)
    have hci := hc i (by omega)
    have hb : b < w.heap.size := by
      apply Classical.byContradiction
      intro hn
      have : w.cell? ⟨b, off + i, none⟩ = none := by
        simp [World.cell?, Array.getElem?_eq_none (show w.heap.size ≤ b from by omega)]
      rw [this] at hci; cases hci
    refine ⟨b, off, _, rfl, hb, by omega, hci, ?_⟩
    have := range_u8 hwf i
    simpa using this
set_option maxHeartbeats 1000000 in
theorem walk (a0 : Option Addr) (len0 cap0 : Nat) (z0 : List Int) (w : World) (w0 : IsRow .u8 w a0 len0 cap0 z0) :
    Calls Try.prog 3 #[.slice a0 len0 cap0] w fun e w' => e = .returned (.bool true) ∧ Below w.heap.size w w' := by
  by_cases hbig : 4096 < len0
  · go_enter Try.func3, Try.ntmps3
    go_wp2
    go_ret
    exact ⟨rfl, Below.refl _ _⟩
  · have hb := bytes_of w0 (by omega)
    clear w0
    go_enter Try.func3, Try.ntmps3
    go_wp2_with (first | (go_at_call 10; go_in) | fail)
    refine (PartOf_draw _ a0 len0 cap0 hb).mono ?_
    rintro e w1 ⟨n, all, ⟨hn0, hn1, ha0, ha1⟩, rfl, hb1⟩
    have hbb := hb.below hb1
    go_wp2_with fail
    refine (PartOf_impl _ _ _).mono ?_
    rintro e w1' ⟨rfl, rfl⟩
    go_wp2_with fail
    refine (Other_draw _ a0 len0 cap0 hbb).mono ?_
    rintro e w2 ⟨o, ⟨ho0, ho1⟩, rfl, hb2⟩
    have hk : Below w.heap.size w w2 := hb1.trans (hb2.mono hb1.size)
    clear hb hbb hb1 hb2
    by_cases hv : 1 ≤ all ∧ all ≤ 1000000000 ∧ 0 ≤ n ∧ n ≤ all
    · obtain ⟨v1, v2, v3, v4⟩ := hv
      have q0 := partOf_zero v1 v2
      have q1 := partOf_all v1 v2
      obtain ⟨q2, q3⟩ := partOf_ok v1 v2 v3 v4
      have q4 : n < all → partOf n all ≤ partOf (n + 1) all := fun h => partOf_mono v1 v2 v3 h
      have q5 := within_mk q2 q3
      by_cases ho : 0 ≤ o ∧ o ≤ 65536
      · obtain ⟨o1, o2⟩ := ho
        have r1 := other_at o1 o2
        have r2 : other (65536 - o) = o := by rw [other_at (by omega) (by omega)]; omega
        have r3 := within_mk o1 o2
        by_cases hlt : n < all
        · have q4' := q4 hlt
          clear q4
          go_wp2_with (first | (go_at_call 14; refine (Other_impl _ _).mono ?_; rintro e w' ⟨rfl, rfl⟩) | (go_at_call 15; refine (PartOf_spec _ _ _).mono ?_; rintro e w' ⟨rfl, rfl⟩) | (go_at_call 16; refine (Other_spec _ _).mono ?_; rintro e w' ⟨rfl, rfl⟩) | (go_at_call 17; refine (PartOk_impl _ _).mono ?_; rintro e w' ⟨rfl, rfl⟩) | (go_at_call 18; refine (PartOk_spec _ _).mono ?_; rintro e w' ⟨rfl, rfl⟩) | (go_at_call 12; refine (PartOf_impl _ _ _).mono ?_; rintro e w' ⟨rfl, rfl⟩))
          go_ret
          exact ⟨rfl, hk⟩
        · clear q4
          go_wp2_with (first | (go_at_call 14; refine (Other_impl _ _).mono ?_; rintro e w' ⟨rfl, rfl⟩) | (go_at_call 15; refine (PartOf_spec _ _ _).mono ?_; rintro e w' ⟨rfl, rfl⟩) | (go_at_call 16; refine (Other_spec _ _).mono ?_; rintro e w' ⟨rfl, rfl⟩) | (go_at_call 17; refine (PartOk_impl _ _).mono ?_; rintro e w' ⟨rfl, rfl⟩) | (go_at_call 18; refine (PartOk_spec _ _).mono ?_; rintro e w' ⟨rfl, rfl⟩) | (go_at_call 12; refine (PartOf_impl _ _ _).mono ?_; rintro e w' ⟨rfl, rfl⟩))
          go_ret
          exact ⟨rfl, hk⟩
      · have ho' : o < 0 ∨ 65536 < o := by omega
        have r1 := other_not ho'
        have r3 := within_not ho'
        clear ho ho'
        by_cases hlt : n < all
        · have q4' := q4 hlt
          clear q4
          go_wp2_with (first | (go_at_call 14; refine (Other_impl _ _).mono ?_; rintro e w' ⟨rfl, rfl⟩) | (go_at_call 15; refine (PartOf_spec _ _ _).mono ?_; rintro e w' ⟨rfl, rfl⟩) | (go_at_call 16; refine (Other_spec _ _).mono ?_; rintro e w' ⟨rfl, rfl⟩) | (go_at_call 17; refine (PartOk_impl _ _).mono ?_; rintro e w' ⟨rfl, rfl⟩) | (go_at_call 18; refine (PartOk_spec _ _).mono ?_; rintro e w' ⟨rfl, rfl⟩) | (go_at_call 12; refine (PartOf_impl _ _ _).mono ?_; rintro e w' ⟨rfl, rfl⟩))
          go_ret
          exact ⟨rfl, hk⟩
        · clear q4
          go_wp2_with (first | (go_at_call 14; refine (Other_impl _ _).mono ?_; rintro e w' ⟨rfl, rfl⟩) | (go_at_call 15; refine (PartOf_spec _ _ _).mono ?_; rintro e w' ⟨rfl, rfl⟩) | (go_at_call 16; refine (Other_spec _ _).mono ?_; rintro e w' ⟨rfl, rfl⟩) | (go_at_call 17; refine (PartOk_impl _ _).mono ?_; rintro e w' ⟨rfl, rfl⟩) | (go_at_call 18; refine (PartOk_spec _ _).mono ?_; rintro e w' ⟨rfl, rfl⟩) | (go_at_call 12; refine (PartOf_impl _ _ _).mono ?_; rintro e w' ⟨rfl, rfl⟩))
          go_ret
          exact ⟨rfl, hk⟩
    · have hv' : all < 1 ∨ 1000000000 < all ∨ n < 0 ∨ all < n := by omega
      have q0 := partOf_not hv'
      clear hv
      have hcase : (all < 1) ∨ (1 ≤ all ∧ 1000000000 < all) ∨ (1 ≤ all ∧ all ≤ 1000000000 ∧ n < 0) ∨ (1 ≤ all ∧ all ≤ 1000000000 ∧ 0 ≤ n ∧ all < n) := by omega
      clear hv'
      by_cases ho : 0 ≤ o ∧ o ≤ 65536
      · obtain ⟨o1, o2⟩ := ho
        have r1 := other_at o1 o2
        have r2 : other (65536 - o) = o := by rw [other_at (by omega) (by omega)]; omega
        have r3 := within_mk o1 o2
        rcases hcase with d1 | ⟨d1, d2⟩ | ⟨d1, d2, d3⟩ | ⟨d1, d2, d3, d4⟩
        all_goals
          go_wp2_with (first | (go_at_call 14; refine (Other_impl _ _).mono ?_; rintro e w' ⟨rfl, rfl⟩) | (go_at_call 15; refine (PartOf_spec _ _ _).mono ?_; rintro e w' ⟨rfl, rfl⟩) | (go_at_call 16; refine (Other_spec _ _).mono ?_; rintro e w' ⟨rfl, rfl⟩) | (go_at_call 17; refine (PartOk_impl _ _).mono ?_; rintro e w' ⟨rfl, rfl⟩) | (go_at_call 18; refine (PartOk_spec _ _).mono ?_; rintro e w' ⟨rfl, rfl⟩) | (go_at_call 12; refine (PartOf_impl _ _ _).mono ?_; rintro e w' ⟨rfl, rfl⟩))
          go_ret
          exact ⟨rfl, hk⟩
      · have ho' : o < 0 ∨ 65536 < o := by omega
        have r1 := other_not ho'
        have r3 := within_not ho'
        clear ho ho'
        rcases hcase with d1 | ⟨d1, d2⟩ | ⟨d1, d2, d3⟩ | ⟨d1, d2, d3, d4⟩
        all_goals
          go_wp2_with (first | (go_at_call 14; refine (Other_impl _ _).mono ?_; rintro e w' ⟨rfl, rfl⟩) | (go_at_call 15; refine (PartOf_spec _ _ _).mono ?_; rintro e w' ⟨rfl, rfl⟩) | (go_at_call 16; refine (Other_spec _ _).mono ?_; rintro e w' ⟨rfl, rfl⟩) | (go_at_call 17; refine (PartOk_impl _ _).mono ?_; rintro e w' ⟨rfl, rfl⟩) | (go_at_call 18; refine (PartOk_spec _ _).mono ?_; rintro e w' ⟨rfl, rfl⟩) | (go_at_call 12; refine (PartOf_impl _ _ _).mono ?_; rintro e w' ⟨rfl, rfl⟩))
          go_ret
          exact ⟨rfl, hk⟩

/-! ### THE ROW's STEP: WRITTEN OUT: LEAVE IT -/
set_option maxRecDepth 100000 in
theorem lifted (os : Os) (started : os.Started) (H : Type) (enc : TypeId × Value → H) :
    ReturnsInHanded {} Try.checked os 3 .any (Rows.fnPartsSpec.pre6 enc Try.prog Try.f3 Rows.fnPartsRow.domain false) (Rows.fnPartsSpec.post enc Try.prog Try.f3 false true false false) := by
  refine returnsInHanded_of_change (C := Try.checked) own started (by kernel_rfl) Try.func3
    (ChangeSpec.witness6 (enc := enc) (C := Try.checked) false ⟨#[], #[.slice none 0 0], []⟩ 8 (by kernel_rfl) (by kernel_rfl) (by kernel_rfl) (by kernel_rfl)) ?_
  intro W base args ds gs before hval0 hW hcnd _
  have hval : ∀ (j : Nat) t v, Try.f3.params[j]? = some t → args[j]? = some v → Value.okWide Try.prog W .any base t v := hval0
  have hW' := hW
  obtain ⟨p, q, hA0, hV, rfl, hfz, hnd⟩ := hW
  have hA : DataW.TrodAll enc Try.prog W 0 (fun _ => true) true Try.f3.params.toList args.toList ds p := hA0
  rw [Try.params3] at hA hval
  obtain ⟨v0, vs0, d0, ds0, p0, q0, hargs, rfl, rfl, h0, r0⟩ := trodAll_cons hA
  obtain ⟨rfl, rfl, rfl⟩ := trodAll_nil r0
  obtain rfl : args = #[v0] := by cases args; simp_all
  obtain ⟨rfl, rfl⟩ := trodVars_none hV
  obtain ⟨a0, len0, cap0, rfl⟩ := okWide_slice Try.underlying22 (hval 0 22 v0 rfl rfl)
  have k0 := h0
  have lt0 : ∀ x ∈ p0, x.block < W.heap.size := by obtain ⟨m, hm⟩ := k0; exact DataW.trod_lt m _ _ _ hm
  obtain ⟨z0, w0⟩ : ∃ zs, IsRow .u8 W a0 len0 cap0 zs := by
    obtain ⟨fuel, hf⟩ := h0
    rcases open_ints Try.underlying22 Try.underlying5 (by kernel_rfl) hf with ⟨hcs, _⟩ | ⟨x, l, c, zs, hcs, _, hl, hm, hz, _, hcell, hwz⟩
    · simp [Value.cells] at hcs
      obtain ⟨rfl, rfl, rfl⟩ := hcs
      exact ⟨[], .inl ⟨rfl, rfl, rfl, rfl⟩⟩
    · simp [Value.cells] at hcs
      obtain ⟨rfl, rfl, rfl⟩ := hcs
      exact ⟨zs, .inr ⟨_, rfl, hl, hm, by simpa using hz, hcell, hwz⟩⟩
  clear hA0 hval0
  refine (walk a0 len0 cap0 z0 W w0).mono fun e W' ⟨he, bel⟩ => ?_
  subst he
  exact ⟨_, rfl, _, _, _, [], _, [], hW', trodAll_mk1 (shut_bool Try.underlying4 _), (trodAll_cons_mk (Below.trod laidOut (by kernel_rfl) (of_decide_eq_true (by kernel_rfl)) k0 bel lt0) trodAll_mk0), rfl, bel.frame _, fun h => by cases h⟩

theorem over : Rows.fnPartsRow.holds Try.pinned (OpenSpec.ofChange Rows.fnPartsSpec) :=
  OpenClaim.holds_of_wide 3 Try.f3 rfl rfl rfl rfl rfl rfl rfl ⟨rfl, rfl, rfl, rfl, rfl⟩ rfl rfl rfl rfl rfl (by kernel_rfl) Try.func3 (by kernel_rfl)
    (of_decide_eq_true (by kernel_rfl)) (by unfold Func.isWrapper; first | (rw [if_pos (by decide +kernel)]; kernel_rfl) | (rw [if_neg (by decide +kernel)]; exact ⟨rfl, rfl⟩))
    (fun os started H enc _ => lifted os started H enc)

/-- ████ THE STATEMENT ████ -/
theorem proved : Rows.FnPartsSaid := over
#print axioms proved
end Go.Proofs.Ytbmlonpbonfjnaa.fnParts
