/- Proved: for every Note FnExactNoteOk answers true: the program's NoteOk answers as the reference's. No condition. -/
import Derived.Test.YtmcjfjchpclamaaDoorNote9
import Derived.Test.YtmcjfjchpclamaaDoorOpen9
import Derived.Test.YtmcjfjchpclamaaDoorDoor9
import Derived.Test.YtmcjfjchpclamaaDoorRows
import Derived.Test.YtmcjfjchpclamaaDoorCards
import Derived.Test.YtmcjfjchpclamaaDoorTie
import Derived.WalkKit
import Derived.ProofKit
import Derived.OpenShut
import Derived.ShutString
import Derived.ChangeOld
import Derived.Below
import Derived.OpenVars
import Derived.ChangeVars
import Derived.Handed
import Derived.Lay
import Derived.LaidLaws
import Derived.MakeChecks
import Derived.SevenTiedAt
import Derived.Stop.Joined
namespace Go.Proofs.YtmcjfjchpclamaaDoor.fnExactNoteOk
open Go.ChangeShapes Go.WideShapes Go.ChangeAt Go.RowKit
open Go.ChangeMaps (open_string shut_string)
set_option linter.unusedVariables false

theorem own : ownKnob Tryd.prog.godebug = none := by kernel_rfl
theorem laidOut : laidOutB Tryd.prog = true := by kernel_rfl

open Go.Proofs.YtmcjfjchpclamaaDoor.P1 Go.Proofs.YtmcjfjchpclamaaDoor.B1 Go.Proofs.YtmcjfjchpclamaaDoor.B2 Go.Proofs.YtmcjfjchpclamaaDoor.T1 Go.Proofs.YtmcjfjchpclamaaDoor.BT Go.Proofs.YtmcjfjchpclamaaDoor.P5 Go.Proofs.YtmcjfjchpclamaaDoor.P6 Go.Proofs.YtmcjfjchpclamaaDoor.P8 Go.Proofs.YtmcjfjchpclamaaDoor.P9 Go.Proofs.YtmcjfjchpclamaaDoor.B5 Go.Proofs.YtmcjfjchpclamaaDoor.B6 Go.Proofs.YtmcjfjchpclamaaDoor.B8 Go.Proofs.YtmcjfjchpclamaaDoor.B9 Go.Proofs.YtmcjfjchpclamaaDoor.W8 Go.Proofs.YtmcjfjchpclamaaDoor.RC Go.Proofs.YtmcjfjchpclamaaDoor.D1
set_option maxRecDepth 20000 in
set_option maxHeartbeats 4000000 in
theorem walk (n : No) (hf : NoFit n) (w : World) (L : B5.Pow w) :
    Calls Tryd.prog 3 #[noV n] w (Ans (.bool true) w) := by
  have HZ := Lib.hid (fun w' => szNote_laws n 1048576 w' (by decide) (by decide) hf.2.2)
  have HT := Lib.hid (fun w' => toNote_laws n w')
  have hB := (Below.refl w.heap.size w).alloc (Nat.le_refl _) (.cells #[.int .i64 n.l, .int .i64 n.v.k, .int .i64 n.v.n, .int .i64 n.v.r, .int .i64 n.v.g, .int .i64 n.v.b, .int .i64 n.v.c, .string ⟨n.v.w.toArray⟩, .bool n.s] 25)
  have HX := Lib.hid (no_new w n 25)
  have HLD := Lib.hid (fun (w' : World) (h : LBlk w' w.heap.size (noL n)) => load_blk (P := Tryd.prog) (ty := 25) h lno_wide)
  have HL0 := Lib.hid (HLD.out _ HX.out)
  by_cases hbig : (n.v.w.length : Int) ≤ 1048576
  · rw [if_pos hbig] at HZ
    have hz0 : ¬ (1048576 - (n.v.w.length : Int)) < 0 := by omega
    have HS := Lib.hid (fun w' => NoteOk_spec n (by omega) w')
    have HI := Lib.hid (fun w' (hb : Below w.heap.size w w') => NoteOk_impl n ⟨hf.1, hf.2.1⟩ (by omega) w' (L.on hb))
    generalize noteOk n = A at HS HI
    clear L hf
    generalize (1048576 - (n.v.w.length : Int)) = z at HZ hz0
    rw [noV_is]
    clear hbig
    go_enter Tryd.func3, Tryd.ntmps3
    go_wp2_with ((with_reducible refine wp_load_at HL0.out ?_ ?_); exact And.intro rfl (And.intro rfl rfl))
    refine (HZ.out _).mono ?_
    rintro e w1 ⟨rfl, g1⟩
    have hB1 := hB.trans (g1.mono hB.size)
    have HX1 := Lib.hid (HX.out.below g1)
    have HL1 := Lib.hid (HLD.out _ HX1.out)
    clear HZ HL0 g1 HX
    go_wp2_with ((with_reducible refine wp_load_at HL1.out ?_ ?_); exact And.intro rfl (And.intro rfl rfl))
    refine (HT.out _).mono ?_
    rintro e w2 ⟨rfl, g2⟩
    have hB2 := hB1.trans (g2.mono hB1.size)
    have HX2 := Lib.hid (HX1.out.below g2)
    clear HX1 HL1 g2
    go_wp2_with fail
    refine (HS.out _).mono ?_
    rintro e w3 ⟨rfl, g3⟩
    have hB3 := hB2.trans (g3.mono hB2.size)
    have HX3 := Lib.hid (HX2.out.below g3)
    have HL3 := Lib.hid (HLD.out _ HX3.out)
    clear HX2 g3
    go_wp2_with ((with_reducible refine wp_load_at HL3.out ?_ ?_); exact And.intro rfl (And.intro rfl rfl))
    refine (HT.out _).mono ?_
    rintro e w4 ⟨rfl, g4⟩
    have hB4 := hB3.trans (g4.mono hB3.size)
    clear HX3 g4 HL3
    go_wp2_with fail
    refine (HI.out _ hB4).mono ?_
    rintro e w5 ⟨rfl, g5⟩
    have hB5 := hB4.trans (g5.mono hB4.size)
    cases A
    all_goals
      go_wp2_with fail
      go_ret
      exact ⟨rfl, hB5⟩
  · rw [if_neg hbig] at HZ
    rw [noV_is]
    go_enter Tryd.func3, Tryd.ntmps3
    go_wp2_with (first | (go_at_call 4; refine (HZ.out _).mono ?_; rintro e w1 ⟨rfl, g1⟩) | ((with_reducible refine wp_load_at HL0.out ?_ ?_); exact And.intro rfl (And.intro rfl rfl)))
    go_ret
    exact ⟨rfl, hB.trans (g1.mono hB.size)⟩

set_option maxRecDepth 100000 in
theorem lifted (os : Os) (started : os.Started) (H : Type) (enc : TypeId × Value → H) :
    ReturnsInHanded {} Tryd.checked os 3 .any (fun w args => (Rows.fnExactNoteOkSpec.pre enc Tryd.prog Tryd.f3 Rows.fnExactNoteOkRow.domain false w args ∧ laidMetH Tryd.prog Rows.fnExactNoteOkRow.laid w) ∧ sizedMet enc Tryd.prog Tryd.f3 (OpenSpec.ofChange Rows.fnExactNoteOkSpec) false w args)
      (Rows.fnExactNoteOkSpec.post enc Tryd.prog Tryd.f3 false true false false) := by
  refine returnsInHanded_of_calls (C := Tryd.checked) own started (by kernel_rfl)
    (ChangeSpec.witness_shaped (enc := enc) (C := Tryd.checked) (os := os) (X := fun w _ => laidMetH Tryd.prog Rows.fnExactNoteOkRow.laid w) false (World.laidAll Tryd.prog os Rows.fnExactNoteOkRow.laid) #[.agg #[.int .i64 0, .int .i64 0, .int .i64 0, .int .i64 0, .int .i64 0, .int .i64 0, .int .i64 0, .string ⟨#[]⟩, .bool false]] 8 (World.laidAll_os _ _ _)
      (World.shaped_of_ZipB (by kernel_rfl) (by kernel_rfl)) (by kernel_rfl) (by kernel_rfl) (by kernel_rfl)
      (by rw [MakeChecks.laidMetH_plain _ _ _ (by kernel_rfl)]; exact laidMet_laidAll _ (by kernel_rfl) (by kernel_rfl))) ?_
  intro w0 tape i _ hsh0 _ hok hpre _
  obtain ⟨_, _, _, fn', hfn', _, _, _, _, hval00⟩ := hok
  obtain rfl : fn' = Tryd.f3 := Option.some.inj (hfn'.symm.trans Tryd.func3)
  obtain ⟨⟨⟨ds, gs, before, hw, _⟩, hx⟩, _⟩ := hpre
  have hW0 := DataW.Whole.of_heap (w' := w0.forCall tape i) (by rfl) hw
  have hL0 : laidMetH Tryd.prog Rows.fnExactNoteOkRow.laid (w0.forCall tape i) := hx.of_heap (by rfl)
  suffices hgo : ∀ (W : World) (base : Nat) (args : Array Value), (∀ (j : Nat) t v, Tryd.f3.params[j]? = some t → args[j]? = some v → Value.okWide Tryd.prog W .any base t v) →
      DataW.Whole enc Tryd.prog Tryd.f3.params.toList Rows.fnExactNoteOkSpec.vars false W args.toList ds gs before → laidMetH Tryd.prog Rows.fnExactNoteOkRow.laid W → W.ShapedOpen Tryd.prog →
      Calls Tryd.prog 3 args W fun e W' => ∃ v, e = .returned v ∧ Rows.fnExactNoteOkSpec.post enc Tryd.prog Tryd.f3 false true false false W args v W' by
    refine (hgo _ _ _ hval00 hW0 hL0 hsh0).mono fun e W' ⟨v, he, hp⟩ => ?_
    subst he
    exact ChangeSpec.post_blind hp
  clear hsh0 hval00 hW0 hL0 hx hw hfn'
  intro W base args hval0 hW hL hsh
  have hval : ∀ (j : Nat) t v, Tryd.f3.params[j]? = some t → args[j]? = some v → Value.okWide Tryd.prog W .any base t v := hval0
  have hW' := hW
  obtain ⟨p, q, hA0, hV, rfl, hfz, hnd⟩ := hW
  have hA : DataW.TrodAll enc Tryd.prog W 0 (fun _ => true) true Tryd.f3.params.toList args.toList ds p := hA0
  rw [Tryd.params3] at hA hval
  obtain ⟨v0, vs0, d0, ds0, p0, q0, hargs, rfl, rfl, h0, r0⟩ := trodAll_cons hA
  obtain ⟨rfl, rfl, rfl⟩ := trodAll_nil r0
  obtain rfl : args = #[v0] := by cases args; simp_all
  obtain ⟨rfl, rfl⟩ := trodVars_none hV
  have k0 := h0
  have lt0 : ∀ x ∈ p0, x.block < W.heap.size := by obtain ⟨m, hm⟩ := k0; exact DataW.trod_lt m _ _ _ hm
  obtain ⟨n0, rfl, hn0⟩ := open_note (hval 0 25 v0 rfl rfl) h0
  refine (walk n0 hn0 W (laid_exactNoteOk hL)).mono fun e W' ⟨he, bel⟩ => ?_
  subst he
  exact ⟨_, rfl, _, _, _, [], _, [], hW', trodAll_mk1 (shut_bool Tryd.underlying4 _), (trodAll_cons_mk (Below.trod laidOut (by kernel_rfl) (of_decide_eq_true (by kernel_rfl)) k0 bel lt0) trodAll_mk0), rfl, bel.frame _, fun h => by cases h⟩

theorem over : Rows.fnExactNoteOkRow.holds Tryd.pinned (OpenSpec.ofChange Rows.fnExactNoteOkSpec) :=
  OpenClaim.holds_of_wide 3 Tryd.f3 rfl rfl rfl rfl rfl rfl rfl ⟨rfl, rfl, rfl, rfl, rfl⟩ rfl rfl rfl rfl rfl (by kernel_rfl) Tryd.func3 (by kernel_rfl)
    (of_decide_eq_true (by kernel_rfl)) (by unfold Func.isWrapper; first | (rw [if_pos (by decide +kernel)]; kernel_rfl) | (rw [if_neg (by decide +kernel)]; exact ⟨rfl, rfl⟩))
    (fun os started H enc _ => lifted os started H enc)

theorem proved : Rows.FnExactNoteOkCardSaid :=
  Claim7.holds_tied_plain_at .later [] [.data, .data, .data, .sentinel, .sentinel] true (true, "ed9c2b0f55356ead570233fbadf9c767206eeeb828ac7efe4d8a9dec95e0fc22") true over (fun _ h => by cases h) (by kernel_rfl) (fun _ h => by cases h) fnExactNoteOk_row_tie rfl ⟨rfl, rfl⟩ (by kernel_rfl) rfl
    (fun f fn hf hfn => by
      obtain rfl : f = 3 := Option.some.inj ((show Tryd.prog.funcNamed "loop.example/g00521/laws.FnExactNoteOk" = some 3 by kernel_rfl).symm.trans hf) |>.symm
      obtain rfl : fn = Tryd.f3 := (Option.some.inj (Tryd.func3.symm.trans hfn)).symm
      exact ⟨by kernel_rfl, fun j t ht => by
        have hm : t ∈ Tryd.f3.params.toList := by simpa using Array.mem_of_getElem? ht
        have hall : (Tryd.f3.params.toList.all fun u => !Tryd.prog.wantsStandIn u) = true := by kernel_rfl
        exact (show Tryd.prog.wantsStandIn t = false by simpa using List.all_eq_true.1 hall t hm)⟩)
    (by kernel_rfl)
#print axioms proved
end Go.Proofs.YtmcjfjchpclamaaDoor.fnExactNoteOk
