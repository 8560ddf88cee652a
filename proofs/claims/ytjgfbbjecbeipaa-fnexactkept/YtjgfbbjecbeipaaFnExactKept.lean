/- Proved: for every int64 and every Value FnExactKept answers true: the program's Kept answers as the reference's, in every field. No condition. -/
import Derived.Test.YtjgfbbjecbeipaaBase8
import Derived.Test.YtjgfbbjecbeipaaBase6n
import Derived.Test.YtjgfbbjecbeipaaBase6b
import Derived.Test.YtjgfbbjecbeipaaImp8e
import Derived.Test.YtjgfbbjecbeipaaRows
import Derived.WalkKit
import Derived.ProofKit
import Derived.OpenShut
import Derived.ShutString
import Derived.ChangeOld
import Derived.Below
namespace Go.Proofs.Ytjgfbbjecbeipaa.fnExactKept
open Go.ChangeShapes Go.WideShapes Go.ChangeAt Go.RowKit
open Go.ChangeMaps (open_string shut_string)
set_option linter.unusedVariables false

theorem own : ownKnob Try.prog.godebug = none := by kernel_rfl
theorem laidOut : laidOutB Try.prog = true := by kernel_rfl

open Go.Proofs.Ytjgfbbjecbeipaa.P1 Go.Proofs.Ytjgfbbjecbeipaa.B1 Go.Proofs.Ytjgfbbjecbeipaa.B2 Go.Proofs.Ytjgfbbjecbeipaa.T1 Go.Proofs.Ytjgfbbjecbeipaa.BT Go.Proofs.Ytjgfbbjecbeipaa.P5 Go.Proofs.Ytjgfbbjecbeipaa.P6 Go.Proofs.Ytjgfbbjecbeipaa.P8 Go.Proofs.Ytjgfbbjecbeipaa.B5 Go.Proofs.Ytjgfbbjecbeipaa.B6 Go.Proofs.Ytjgfbbjecbeipaa.B8
theorem held77_box2 {w w1 : World} {b1 : Nat} {v10 v11 v12 v13 v14 v15 v16 : Value} (c0 : w1.cell? ⟨b1, 0, none⟩ = some v10) (c1 : w1.cell? ⟨b1, 1, none⟩ = some v11) (c2 : w1.cell? ⟨b1, 2, none⟩ = some v12) (c3 : w1.cell? ⟨b1, 3, none⟩ = some v13) (c4 : w1.cell? ⟨b1, 4, none⟩ = some v14) (c5 : w1.cell? ⟨b1, 5, none⟩ = some v15) (c6 : w1.cell? ⟨b1, 6, none⟩ = some v16) (l1 : b1 < w1.heap.size) (hB : Below w.heap.size w w1) (u0 u1 u2 u3 u4 u5 u6 : Value) (t : TypeId) :
    (w1.alloc (.cells #[u0, u1, u2, u3, u4, u5, u6] t)).cell? ⟨b1, 0, none⟩ = some v10 ∧ (w1.alloc (.cells #[u0, u1, u2, u3, u4, u5, u6] t)).cell? ⟨b1, 1, none⟩ = some v11 ∧ (w1.alloc (.cells #[u0, u1, u2, u3, u4, u5, u6] t)).cell? ⟨b1, 2, none⟩ = some v12 ∧ (w1.alloc (.cells #[u0, u1, u2, u3, u4, u5, u6] t)).cell? ⟨b1, 3, none⟩ = some v13 ∧ (w1.alloc (.cells #[u0, u1, u2, u3, u4, u5, u6] t)).cell? ⟨b1, 4, none⟩ = some v14 ∧ (w1.alloc (.cells #[u0, u1, u2, u3, u4, u5, u6] t)).cell? ⟨b1, 5, none⟩ = some v15 ∧ (w1.alloc (.cells #[u0, u1, u2, u3, u4, u5, u6] t)).cell? ⟨b1, 6, none⟩ = some v16 ∧ (w1.alloc (.cells #[u0, u1, u2, u3, u4, u5, u6] t)).cell? ⟨w1.heap.size, 0, none⟩ = some u0 ∧ (w1.alloc (.cells #[u0, u1, u2, u3, u4, u5, u6] t)).cell? ⟨w1.heap.size, 1, none⟩ = some u1 ∧ (w1.alloc (.cells #[u0, u1, u2, u3, u4, u5, u6] t)).cell? ⟨w1.heap.size, 2, none⟩ = some u2 ∧ (w1.alloc (.cells #[u0, u1, u2, u3, u4, u5, u6] t)).cell? ⟨w1.heap.size, 3, none⟩ = some u3 ∧ (w1.alloc (.cells #[u0, u1, u2, u3, u4, u5, u6] t)).cell? ⟨w1.heap.size, 4, none⟩ = some u4 ∧ (w1.alloc (.cells #[u0, u1, u2, u3, u4, u5, u6] t)).cell? ⟨w1.heap.size, 5, none⟩ = some u5 ∧ (w1.alloc (.cells #[u0, u1, u2, u3, u4, u5, u6] t)).cell? ⟨w1.heap.size, 6, none⟩ = some u6 ∧ b1 < (w1.alloc (.cells #[u0, u1, u2, u3, u4, u5, u6] t)).heap.size ∧ w1.heap.size < (w1.alloc (.cells #[u0, u1, u2, u3, u4, u5, u6] t)).heap.size ∧ Below w.heap.size w (w1.alloc (.cells #[u0, u1, u2, u3, u4, u5, u6] t)) := by
  have g : Below w1.heap.size w1 (w1.alloc (.cells #[u0, u1, u2, u3, u4, u5, u6] t)) := (Below.refl _ _).alloc (Nat.le_refl _) _
  obtain ⟨a0, a1, a2, a3, a4, a5, a6, a7, a8⟩ := held7_call g c0 c1 c2 c3 c4 c5 c6 l1 hB
  exact ⟨a0, a1, a2, a3, a4, a5, a6, by simp, by simp, by simp, by simp, by simp, by simp, by simp, a7, by simp, a8⟩
set_option maxRecDepth 20000 in
set_option maxHeartbeats 2000000 in
theorem walk (l : Int) (hlr : -9223372036854775808 ≤ l ∧ l ≤ 9223372036854775807) (x : Va) (hl : x.w.length ≤ 9223372036854775807) (w : World) :
    Calls Try.prog 7 #[.int .i64 l, valV x] w (Ans (.bool true) w) := by
  have HZ := Lib.hid (fun w' => szValue_laws x 1048576 w' (by decide) (by decide) hl)
  have HT := Lib.hid (fun w' => toValue_laws x w')
  by_cases hbig : (x.w.length : Int) ≤ 1048576
  · rw [if_pos hbig] at HZ
    have hz0 : ¬ (1048576 - (x.w.length : Int)) < 0 := by omega
    have HS := Lib.hid (fun w' => Kept_spec l x w')
    have HI := Lib.hid (fun w' => Kept_impl l x hlr w' (by omega))
    have HE := Lib.hid (fun w' => eqValue_self (kept l x) w')
    generalize kept l x = y at HS HI HE
    obtain ⟨yk, yn, yr, yg, yb, yc, yt⟩ := y
    clear hlr
    unfold valV at HE
    dsimp only at HE
    generalize (1048576 - (x.w.length : Int)) = z at HZ hz0
    obtain ⟨k, n, r, g, b, c, t⟩ := x
    unfold valV at HZ HT HS HI ⊢
    dsimp only at HZ HT HS HI ⊢
    clear hbig hl
    go_enter Try.func7, Try.ntmps7
    have hn := held7_new (.int .i64 k) (.int .i64 n) (.int .i64 r) (.int .i64 g) (.int .i64 b) (.int .i64 c) (.string ⟨t.toArray⟩) 30 (Below.refl w.heap.size w)
    obtain ⟨c0, c1, c2, c3, c4, c5, c6, hlt, hB⟩ := hn
    go_wp2_with fail
    refine (HZ.out _).mono ?_
    rintro e w1 ⟨rfl, g1⟩
    obtain ⟨d0, d1, d2, d3, d4, d5, d6, hlt1, hB1⟩ := held7_call g1 c0 c1 c2 c3 c4 c5 c6 hlt hB
    clear c0 c1 c2 c3 c4 c5 c6 hlt hB g1
    go_wp2_with fail
    refine (HT.out _).mono ?_
    rintro e w2 ⟨rfl, g2⟩
    obtain ⟨c0, c1, c2, c3, c4, c5, c6, hlt, hB⟩ := held7_call g2 d0 d1 d2 d3 d4 d5 d6 hlt1 hB1
    clear d0 d1 d2 d3 d4 d5 d6 hlt1 hB1 g2
    go_wp2_with fail
    refine (HS.out _).mono ?_
    rintro e w3 ⟨rfl, g3⟩
    obtain ⟨d0, d1, d2, d3, d4, d5, d6, hlt1, hB1⟩ := held7_call g3 c0 c1 c2 c3 c4 c5 c6 hlt hB
    clear c0 c1 c2 c3 c4 c5 c6 hlt hB g3
    obtain ⟨e0, e1, e2, e3, e4, e5, e6, f0, f1, f2, f3, f4, f5, f6, hlt3, hlt4, hB4⟩ := held77_box2 d0 d1 d2 d3 d4 d5 d6 hlt1 hB1 (.int .i64 yk) (.int .i64 yn) (.int .i64 yr) (.int .i64 yg) (.int .i64 yb) (.int .i64 yc) (.string ⟨yt.toArray⟩) 27
    clear d0 d1 d2 d3 d4 d5 d6 hlt1 hB1
    go_wp2_with fail
    refine (HT.out _).mono ?_
    rintro e w4 ⟨rfl, g4⟩
    obtain ⟨_, _, _, _, _, _, _, d0, d1, d2, d3, d4, d5, d6, _, hlt5, hB5⟩ := held77_call g4 e0 e1 e2 e3 e4 e5 e6 f0 f1 f2 f3 f4 f5 f6 hlt3 hlt4 hB4
    clear e0 e1 e2 e3 e4 e5 e6 f0 f1 f2 f3 f4 f5 f6 hlt3 hlt4 hB4 g4
    go_wp2_with fail
    refine (HI.out _).mono ?_
    rintro e w5 ⟨rfl, g5⟩
    obtain ⟨f0, f1, f2, f3, f4, f5, f6, hlt6, hB6⟩ := held7_call g5 d0 d1 d2 d3 d4 d5 d6 hlt5 hB5
    clear d0 d1 d2 d3 d4 d5 d6 hlt5 hB5 g5
    have hB7 := hB6.alloc hB6.size (.cells #[.int .i64 yk, .int .i64 yn, .int .i64 yr, .int .i64 yg, .int .i64 yb, .int .i64 yc, .string ⟨yt.toArray⟩] 27)
    go_wp2_with fail
    refine (HE.out _).mono ?_
    rintro e w6 ⟨rfl, g6⟩
    go_wp2_with fail
    go_ret
    exact ⟨rfl, hB7.trans (g6.mono hB7.size)⟩
  · rw [if_neg hbig] at HZ
    obtain ⟨k, n, r, g, b, c, t⟩ := x
    unfold valV at HZ ⊢
    dsimp only at HZ ⊢
    clear hbig hl HT
    go_enter Try.func7, Try.ntmps7
    go_wp2_with (go_at_call 17; refine (HZ.out _).mono ?_; rintro e w1 ⟨rfl, g1⟩)
    go_ret
    exact ⟨rfl, Below.box g1⟩

set_option maxRecDepth 100000 in
theorem lifted (os : Os) (started : os.Started) (H : Type) (enc : TypeId × Value → H) :
    ReturnsInHanded {} Try.checked os 7 .any (Rows.fnExactKeptSpec.pre6 enc Try.prog Try.f7 Rows.fnExactKeptRow.domain false) (Rows.fnExactKeptSpec.post enc Try.prog Try.f7 false true false false) := by
  refine returnsInHanded_of_change (C := Try.checked) own started (by kernel_rfl) Try.func7
    (ChangeSpec.witness6 (enc := enc) (C := Try.checked) false ⟨#[], #[.int .i64 0, .agg #[.int .i64 0, .int .i64 0, .int .i64 0, .int .i64 0, .int .i64 0, .int .i64 0, .string ⟨#[]⟩]], []⟩ 8 (by kernel_rfl) (by kernel_rfl) (by kernel_rfl) (by kernel_rfl)) ?_
  intro W base args ds gs before hval0 hW hcnd _
  have hval : ∀ (j : Nat) t v, Try.f7.params[j]? = some t → args[j]? = some v → Value.okWide Try.prog W .any base t v := hval0
  have hW' := hW
  obtain ⟨p, q, hA0, hV, rfl, hfz, hnd⟩ := hW
  have hA : DataW.TrodAll enc Try.prog W 0 (fun _ => true) true Try.f7.params.toList args.toList ds p := hA0
  rw [Try.params7] at hA hval
  obtain ⟨v0, vs0, d0, ds0, p0, q0, hargs, rfl, rfl, h0, r0⟩ := trodAll_cons hA
  obtain ⟨v1, vs1, d1, ds1, p1, q1, rfl, rfl, rfl, h1, r1⟩ := trodAll_cons r0
  obtain ⟨rfl, rfl, rfl⟩ := trodAll_nil r1
  obtain rfl : args = #[v0, v1] := by cases args; simp_all
  obtain ⟨rfl, rfl⟩ := trodVars_none hV
  have k0 := h0
  have lt0 : ∀ x ∈ p0, x.block < W.heap.size := by obtain ⟨m, hm⟩ := k0; exact DataW.trod_lt m _ _ _ hm
  have k1 := h1
  have lt1 : ∀ x ∈ p1, x.block < W.heap.size := by obtain ⟨m, hm⟩ := k1; exact DataW.trod_lt m _ _ _ hm
  obtain ⟨l, rfl, rfl, rfl, _⟩ := open_int Try.underlying2 (hval 0 2 v0 rfl rfl) h0
  have hlr : -9223372036854775808 ≤ l ∧ l ≤ 9223372036854775807 := by rename_i hr; simpa [Lit.wf, IntKind.min, IntKind.max, IntKind.signed, IntKind.bits] using hr
  obtain ⟨x0, rfl, hl0⟩ := open_value (hval 1 30 v1 rfl rfl) h1
  refine (walk l hlr x0 hl0 W).mono fun e W' ⟨he, bel⟩ => ?_
  subst he
  exact ⟨_, rfl, _, _, _, [], _, [], hW', trodAll_mk1 (shut_bool Try.underlying4 _), (trodAll_cons_mk (Below.trod laidOut (by kernel_rfl) (of_decide_eq_true (by kernel_rfl)) k0 bel lt0) (trodAll_cons_mk (Below.trod laidOut (by kernel_rfl) (of_decide_eq_true (by kernel_rfl)) k1 bel lt1) trodAll_mk0)), rfl, bel.frame _, fun h => by cases h⟩

theorem over : Rows.fnExactKeptRow.holds Try.pinned (OpenSpec.ofChange Rows.fnExactKeptSpec) :=
  OpenClaim.holds_of_wide 7 Try.f7 rfl rfl rfl rfl rfl rfl rfl ⟨rfl, rfl, rfl, rfl, rfl⟩ rfl rfl rfl rfl rfl (by kernel_rfl) Try.func7 (by kernel_rfl)
    (of_decide_eq_true (by kernel_rfl)) (by unfold Func.isWrapper; first | (rw [if_pos (by decide +kernel)]; kernel_rfl) | (rw [if_neg (by decide +kernel)]; exact ⟨rfl, rfl⟩))
    (fun os started H enc _ => lifted os started H enc)

theorem proved : Rows.FnExactKeptSaid := over
#print axioms proved
end Go.Proofs.Ytjgfbbjecbeipaa.fnExactKept
