/- Proved: for every list of Notes and every int64 FnExactNoteFor answers true: the program's NoteFor answers as the reference's, and its argument stays. No condition. -/
import Derived.Test.YtmcjfjchpclamaaBase9s
import Derived.Test.YtmcjfjchpclamaaOpen9
import Derived.Test.YtmcjfjchpclamaaRows
import Derived.WalkKit
import Derived.ProofKit
import Derived.OpenShut
import Derived.ShutString
import Derived.ChangeOld
import Derived.Below
namespace Go.Proofs.Ytmcjfjchpclamaa.fnExactNoteFor
open Go.ChangeShapes Go.WideShapes Go.ChangeAt Go.RowKit
open Go.ChangeMaps (open_string shut_string)
set_option linter.unusedVariables false

theorem own : ownKnob Try.prog.godebug = none := by kernel_rfl
theorem laidOut : laidOutB Try.prog = true := by kernel_rfl

open Go.Proofs.Ytmcjfjchpclamaa.P1 Go.Proofs.Ytmcjfjchpclamaa.B1 Go.Proofs.Ytmcjfjchpclamaa.B2 Go.Proofs.Ytmcjfjchpclamaa.T1 Go.Proofs.Ytmcjfjchpclamaa.BT Go.Proofs.Ytmcjfjchpclamaa.P5 Go.Proofs.Ytmcjfjchpclamaa.P6 Go.Proofs.Ytmcjfjchpclamaa.P8 Go.Proofs.Ytmcjfjchpclamaa.P9 Go.Proofs.Ytmcjfjchpclamaa.B5 Go.Proofs.Ytmcjfjchpclamaa.B6 Go.Proofs.Ytmcjfjchpclamaa.B9 Go.Proofs.Ytmcjfjchpclamaa.W8 Go.Proofs.Ytmcjfjchpclamaa.RC Go.Proofs.Ytmcjfjchpclamaa.D1
set_option maxRecDepth 20000 in
set_option maxHeartbeats 4000000 in
theorem walk (ns : List No) (v : Value) (l : Int) (w : World) (h : NoSlc w v ns) (hf : ∀ x ∈ ns, NoFit x) :
    Calls Try.prog 4 #[v, .int .i64 l] w (Ans (.bool true) w) := by
  have HA := Lib.hid h
  have HZ := Lib.hid (fun w' (hb : Below w.heap.size w w') => szNoteS_laws ns v w' (h.on hb) hf)
  obtain ⟨a, cap, rfl, _⟩ := h.form
  clear h hf
  generalize hm : ns.length = m at *
  have HM := Lib.hid hm
  clear hm
  go_enter Try.func4, Try.ntmps4
  go_wp2_with fail
  refine (HZ.out _ (Below.refl _ _)).mono ?_
  rintro e w1 ⟨r, rfl, hr0, hr1, hrs, g1⟩
  by_cases hneg : r < 0
  · go_wp2_with fail
    go_ret
    exact ⟨rfl, g1⟩
  · have hsm := hrs (by omega)
    have HT := Lib.hid (fun w' (hb : Below w.heap.size w w') => toNoteS_laws ns _ w' (HA.out.on hb) (by omega))
    have HS := Lib.hid (fun v' w' (hv : NoSlc w' v' ns) => NoteFor_spec ns l v' w' hv (by omega))
    have HI := Lib.hid (fun v' w' (hv : NoSlc w' v' ns) => NoteFor_impl ns l v' w' hv (by omega))
    have HE := Lib.hid (fun v' v2 w' (hv : NoSlc w' v' ns) (hv2 : NoSlc w' v2 ns) => eqNoteS_same ns v' v2 w' hv hv2 (by omega))
    unfold forV at HS HI
    generalize noVal (forN ns l) = y at HS HI
    generalize (forN ns l).isSome = I at HS HI
    have HQ := Lib.hid (fun w' => eqNote_self y w')
    clear hrs hsm hr0 hr1 HZ
    go_wp2_with fail
    refine (HT.out _ g1).mono ?_
    rintro e w2 ⟨v1, rfl, hv1, g2⟩
    have hB2 := g1.trans (g2.mono g1.size)
    go_wp2_with fail
    refine (HS.out _ _ hv1).mono ?_
    rintro e w3 ⟨rfl, g3⟩
    have hB3 := hB2.trans (g3.mono hB2.size)
    obtain ⟨w4, hst4, hl4, hb4⟩ := no_laid w3 y
    have hB4 := hB3.trans (hb4.mono hB3.size)
    have HST4 := Lib.hid hst4
    clear hst4 hb4
    go_wp2_with ((with_reducible refine wp_store_at HST4.out ?_ ?_); exact And.intro rfl (And.intro rfl (And.intro rfl rfl)))
    refine (HT.out _ hB4).mono ?_
    rintro e w5 ⟨v2, rfl, hv2, g5⟩
    have hB5 := hB4.trans (g5.mono hB4.size)
    have hl5 := hl4.below g5
    have HV2 := Lib.hid hv2
    obtain ⟨a2, c2', rfl, _⟩ := hv2.form
    rw [HM.out]
    rw [HM.out] at HV2
    clear hv2 hl4 HST4
    go_wp2_with fail
    refine (HI.out _ _ HV2.out).mono ?_
    rintro e w6 ⟨rfl, g6⟩
    have hB6 := hB5.trans (g6.mono hB5.size)
    have hl6 := hl5.below g6
    obtain ⟨w7, hst7, hl7, hb7⟩ := no_laid w6 y
    have hB7 := hB6.trans (hb7.mono hB6.size)
    have HST7 := Lib.hid hst7
    have HLa := Lib.hid (load_blk (P := Try.prog) (ty := 30) hl7 no_wide)
    have HLb := Lib.hid (load_blk (P := Try.prog) (ty := 30) (hl6.below hb7) no_wide)
    have HV7 := Lib.hid ((HV2.out.on g6).on hb7)
    clear hst7 hl6 hl7 hb7 hl5
    go_wp2_with (first | ((with_reducible refine wp_store_at HST7.out ?_ ?_); exact And.intro rfl (And.intro rfl (And.intro rfl rfl))) | ((with_reducible refine wp_load_at HLa.out ?_ ?_); exact And.intro rfl (And.intro rfl rfl)) | ((with_reducible refine wp_load_at HLb.out ?_ ?_); exact And.intro rfl (And.intro rfl rfl)))
    refine (HQ.out _).mono ?_
    rintro e w8 ⟨rfl, g8⟩
    have hB8 := hB7.trans (g8.mono hB7.size)
    have HV8 := Lib.hid (HV7.out.on g8)
    clear HLa HLb HST7
    cases I
    all_goals
      go_wp2_with fail
      refine (HT.out _ hB8).mono ?_
      rintro e w9 ⟨v3, rfl, hv3, g9⟩
      have hB9 := hB8.trans (g9.mono hB8.size)
      go_wp2_with fail
      refine (HE.out _ _ _ (HV8.out.on g9) hv3).mono ?_
      rintro e w10 ⟨rfl, g10⟩
      go_wp2_with fail
      go_ret
      exact ⟨rfl, hB9.trans (g10.mono hB9.size)⟩

set_option maxRecDepth 100000 in
theorem lifted (os : Os) (started : os.Started) (H : Type) (enc : TypeId × Value → H) :
    ReturnsInHanded {} Try.checked os 4 .any (Rows.fnExactNoteForSpec.pre6 enc Try.prog Try.f4 Rows.fnExactNoteForRow.domain false) (Rows.fnExactNoteForSpec.post enc Try.prog Try.f4 false true false false) := by
  refine returnsInHanded_of_change (C := Try.checked) own started (by kernel_rfl) Try.func4
    (ChangeSpec.witness6 (enc := enc) (C := Try.checked) false ⟨#[], #[.slice none 0 0, .int .i64 0], []⟩ 8 (by kernel_rfl) (by kernel_rfl) (by kernel_rfl) (by kernel_rfl)) ?_
  intro W base args ds gs before hval0 hW hcnd _
  have hval : ∀ (j : Nat) t v, Try.f4.params[j]? = some t → args[j]? = some v → Value.okWide Try.prog W .any base t v := hval0
  have hW' := hW
  obtain ⟨p, q, hA0, hV, rfl, hfz, hnd⟩ := hW
  have hA : DataW.TrodAll enc Try.prog W 0 (fun _ => true) true Try.f4.params.toList args.toList ds p := hA0
  rw [Try.params4] at hA hval
  obtain ⟨v0, vs0, d0, ds0, p0, q0, hargs, rfl, rfl, h0, r0⟩ := trodAll_cons hA
  obtain ⟨v1, vs1, d1, ds1, p1, q1, rfl, rfl, rfl, h1, r1⟩ := trodAll_cons r0
  obtain ⟨rfl, rfl, rfl⟩ := trodAll_nil r1
  obtain rfl : args = #[v0, v1] := by cases args; simp_all
  obtain ⟨rfl, rfl⟩ := trodVars_none hV
  have k0 := h0
  have lt0 : ∀ x ∈ p0, x.block < W.heap.size := by obtain ⟨m, hm⟩ := k0; exact DataW.trod_lt m _ _ _ hm
  have k1 := h1
  have lt1 : ∀ x ∈ p1, x.block < W.heap.size := by obtain ⟨m, hm⟩ := k1; exact DataW.trod_lt m _ _ _ hm
  obtain ⟨ns0, ha0, hf0⟩ := open_notes (hval 0 33 v0 rfl rfl) h0
  obtain ⟨l, rfl, rfl, rfl, _⟩ := open_int Try.underlying2 (hval 1 2 v1 rfl rfl) h1
  refine (walk ns0 _ l W ha0 hf0).mono fun e W' ⟨he, bel⟩ => ?_
  subst he
  exact ⟨_, rfl, _, _, _, [], _, [], hW', trodAll_mk1 (shut_bool Try.underlying4 _), (trodAll_cons_mk (Below.trod laidOut (by kernel_rfl) (of_decide_eq_true (by kernel_rfl)) k0 bel lt0) (trodAll_cons_mk (Below.trod laidOut (by kernel_rfl) (of_decide_eq_true (by kernel_rfl)) k1 bel lt1) trodAll_mk0)), rfl, bel.frame _, fun h => by cases h⟩

theorem over : Rows.fnExactNoteForRow.holds Try.pinned (OpenSpec.ofChange Rows.fnExactNoteForSpec) :=
  OpenClaim.holds_of_wide 4 Try.f4 rfl rfl rfl rfl rfl rfl rfl ⟨rfl, rfl, rfl, rfl, rfl⟩ rfl rfl rfl rfl rfl (by kernel_rfl) Try.func4 (by kernel_rfl)
    (of_decide_eq_true (by kernel_rfl)) (by unfold Func.isWrapper; first | (rw [if_pos (by decide +kernel)]; kernel_rfl) | (rw [if_neg (by decide +kernel)]; exact ⟨rfl, rfl⟩))
    (fun os started H enc _ => lifted os started H enc)

theorem proved : Rows.FnExactNoteForSaid := over
#print axioms proved
end Go.Proofs.Ytmcjfjchpclamaa.fnExactNoteFor
