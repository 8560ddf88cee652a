/- Proved: for every int64 FnExactHandedDown answers true: the program's HandedDown answers as the reference's. No condition. -/
import Derived.Test.YtjgfbbjecbeipaaBase8
import Derived.Test.YtjgfbbjecbeipaaImp8e
import Derived.Test.YtjgfbbjecbeipaaRows
import Derived.WalkKit
import Derived.ProofKit
import Derived.OpenShut
import Derived.ShutString
import Derived.ChangeOld
import Derived.Below
namespace Go.Proofs.Ytjgfbbjecbeipaa.fnExactHandedDown
open Go.ChangeShapes Go.WideShapes Go.ChangeAt Go.RowKit
open Go.ChangeMaps (open_string shut_string)
set_option linter.unusedVariables false

theorem own : ownKnob Try.prog.godebug = none := by kernel_rfl
theorem laidOut : laidOutB Try.prog = true := by kernel_rfl

open Go.Proofs.Ytjgfbbjecbeipaa.P1 Go.Proofs.Ytjgfbbjecbeipaa.B1 Go.Proofs.Ytjgfbbjecbeipaa.B2 Go.Proofs.Ytjgfbbjecbeipaa.T1 Go.Proofs.Ytjgfbbjecbeipaa.BT Go.Proofs.Ytjgfbbjecbeipaa.P5 Go.Proofs.Ytjgfbbjecbeipaa.P6 Go.Proofs.Ytjgfbbjecbeipaa.P8 Go.Proofs.Ytjgfbbjecbeipaa.B5 Go.Proofs.Ytjgfbbjecbeipaa.B6 Go.Proofs.Ytjgfbbjecbeipaa.B8
set_option maxRecDepth 20000 in
set_option maxHeartbeats 2000000 in
theorem walk (l : Int) (hl : -9223372036854775808 ≤ l ∧ l ≤ 9223372036854775807) (w : World) :
    Calls Try.prog 6 #[.int .i64 l] w (Ans (.bool true) w) := by
  have HS := Lib.hid (fun w' => HandedDown_spec l w')
  have HI := Lib.hid (fun w' => HandedDown_impl l w' hl)
  generalize handed l = s at HS HI
  have hss : (s != s) = false := by simp
  clear hl
  go_enter Try.func6, Try.ntmps6
  go_wp2_with fail
  refine (HS.out _).mono ?_
  rintro e w1 ⟨rfl, rfl⟩
  go_wp2_with fail
  refine (HI.out _).mono ?_
  rintro e w2 ⟨rfl, b2⟩
  go_wp2_with fail
  go_ret
  exact ⟨rfl, b2⟩

set_option maxRecDepth 100000 in
theorem lifted (os : Os) (started : os.Started) (H : Type) (enc : TypeId × Value → H) :
    ReturnsInHanded {} Try.checked os 6 .any (Rows.fnExactHandedDownSpec.pre6 enc Try.prog Try.f6 Rows.fnExactHandedDownRow.domain false) (Rows.fnExactHandedDownSpec.post enc Try.prog Try.f6 false true false false) := by
  refine returnsInHanded_of_change (C := Try.checked) own started (by kernel_rfl) Try.func6
    (ChangeSpec.witness6 (enc := enc) (C := Try.checked) false ⟨#[], #[.int .i64 0], []⟩ 8 (by kernel_rfl) (by kernel_rfl) (by kernel_rfl) (by kernel_rfl)) ?_
  intro W base args ds gs before hval0 hW hcnd _
  have hval : ∀ (j : Nat) t v, Try.f6.params[j]? = some t → args[j]? = some v → Value.okWide Try.prog W .any base t v := hval0
  have hW' := hW
  obtain ⟨p, q, hA0, hV, rfl, hfz, hnd⟩ := hW
  have hA : DataW.TrodAll enc Try.prog W 0 (fun _ => true) true Try.f6.params.toList args.toList ds p := hA0
  rw [Try.params6] at hA hval
  obtain ⟨v0, vs0, d0, ds0, p0, q0, hargs, rfl, rfl, h0, r0⟩ := trodAll_cons hA
  obtain ⟨rfl, rfl, rfl⟩ := trodAll_nil r0
  obtain rfl : args = #[v0] := by cases args; simp_all
  obtain ⟨rfl, rfl⟩ := trodVars_none hV
  have k0 := h0
  have lt0 : ∀ x ∈ p0, x.block < W.heap.size := by obtain ⟨m, hm⟩ := k0; exact DataW.trod_lt m _ _ _ hm
  obtain ⟨l, rfl, rfl, rfl, _⟩ := open_int Try.underlying2 (hval 0 2 v0 rfl rfl) h0
  refine (walk l (by rename_i hr; simpa [Lit.wf, IntKind.min, IntKind.max, IntKind.signed, IntKind.bits] using hr) W).mono fun e W' ⟨he, bel⟩ => ?_
  subst he
  exact ⟨_, rfl, _, _, _, [], _, [], hW', trodAll_mk1 (shut_bool Try.underlying4 _), (trodAll_cons_mk (Below.trod laidOut (by kernel_rfl) (of_decide_eq_true (by kernel_rfl)) k0 bel lt0) trodAll_mk0), rfl, bel.frame _, fun h => by cases h⟩

theorem over : Rows.fnExactHandedDownRow.holds Try.pinned (OpenSpec.ofChange Rows.fnExactHandedDownSpec) :=
  OpenClaim.holds_of_wide 6 Try.f6 rfl rfl rfl rfl rfl rfl rfl ⟨rfl, rfl, rfl, rfl, rfl⟩ rfl rfl rfl rfl rfl (by kernel_rfl) Try.func6 (by kernel_rfl)
    (of_decide_eq_true (by kernel_rfl)) (by unfold Func.isWrapper; first | (rw [if_pos (by decide +kernel)]; kernel_rfl) | (rw [if_neg (by decide +kernel)]; exact ⟨rfl, rfl⟩))
    (fun os started H enc _ => lifted os started H enc)

theorem proved : Rows.FnExactHandedDownSaid := over
#print axioms proved
end Go.Proofs.Ytjgfbbjecbeipaa.fnExactHandedDown
