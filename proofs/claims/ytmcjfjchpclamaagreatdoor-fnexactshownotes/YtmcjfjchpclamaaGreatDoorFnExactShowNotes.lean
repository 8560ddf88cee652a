/- Proved: for every list of Notes FnExactShowNotes answers true: the program's ShowNotes answers as the reference's, and its argument stays. No condition. -/
import Derived.Test.YtmcjfjchpclamaaGreatDoorShow9j
import Derived.Test.YtmcjfjchpclamaaGreatDoorOpen9
import Derived.Test.YtmcjfjchpclamaaGreatDoorDoor9
import Derived.Test.YtmcjfjchpclamaaGreatDoorRows
import Derived.Test.YtmcjfjchpclamaaGreatDoorCards
import Derived.Test.YtmcjfjchpclamaaGreatDoorTie
import Derived.WalkKit
import Derived.ProofKit
import Derived.OpenShut
import Derived.ShutString
import Derived.ChangeOld
import Derived.Below
import Derived.OpenVars
import Derived.ChangeVars
import Derived.Handed
import Derived.Lay
import Derived.LaidLaws
import Derived.MakeChecks
import Derived.SevenTiedAt
import Derived.Stop.Joined
namespace Go.Proofs.YtmcjfjchpclamaaGreatDoor.fnExactShowNotes
open Go.ChangeShapes Go.WideShapes Go.ChangeAt Go.RowKit
open Go.ChangeMaps (open_string shut_string)
set_option linter.unusedVariables false

theorem own : ownKnob Tryz.prog.godebug = none := by kernel_rfl
theorem laidOut : laidOutB Tryz.prog = true := by kernel_rfl

open Go.Proofs.YtmcjfjchpclamaaGreatDoor.P1 Go.Proofs.YtmcjfjchpclamaaGreatDoor.B1 Go.Proofs.YtmcjfjchpclamaaGreatDoor.B2 Go.Proofs.YtmcjfjchpclamaaGreatDoor.T1 Go.Proofs.YtmcjfjchpclamaaGreatDoor.BT Go.Proofs.YtmcjfjchpclamaaGreatDoor.P5 Go.Proofs.YtmcjfjchpclamaaGreatDoor.P6 Go.Proofs.YtmcjfjchpclamaaGreatDoor.P8 Go.Proofs.YtmcjfjchpclamaaGreatDoor.P9 Go.Proofs.YtmcjfjchpclamaaGreatDoor.B5 Go.Proofs.YtmcjfjchpclamaaGreatDoor.B6 Go.Proofs.YtmcjfjchpclamaaGreatDoor.B9 Go.Proofs.YtmcjfjchpclamaaGreatDoor.W8 Go.Proofs.YtmcjfjchpclamaaGreatDoor.RC Go.Proofs.YtmcjfjchpclamaaGreatDoor.D1
set_option maxRecDepth 20000 in
set_option maxHeartbeats 2000000 in
theorem walk (ns : List No) (v : Value) (w : World) (h : NoSlc w v ns) (hf : ∀ x ∈ ns, NoFit x) (L : B5.Pow w) :
    Calls Tryz.prog 5 #[v] w (Ans (.bool true) w) := by
  have HA := Lib.hid h
  have HL := Lib.hid L
  have HFF := Lib.hid hf
  have HZ := Lib.hid (fun w' (hb : Below w.heap.size w w') => szNoteS_laws ns v w' (h.on hb) hf)
  obtain ⟨a, cap, rfl, _⟩ := h.form
  clear h hf L
  generalize hm : ns.length = m at *
  have HM := Lib.hid hm
  clear hm
  go_enter Tryz.func5, Tryz.ntmps5
  go_wp2_with fail
  refine (HZ.out _ (Below.refl _ _)).mono ?_
  rintro e w1 ⟨r, rfl, hr0, hr1, hrs, g1⟩
  by_cases hneg : r < 0
  · go_wp2_with fail
    go_ret
    exact ⟨rfl, g1⟩
  · have hsm := hrs (by omega)
    have hwl : ∀ x ∈ ns, x.v.w.length ≤ 1048576 := fun x hx => by have := sumW_mem hx; omega
    have HT := Lib.hid (fun w' (hb : Below w.heap.size w w') => toNoteS_laws ns _ w' (HA.out.on hb) (by omega))
    have HS := Lib.hid (fun v' w' (hv : NoSlc w' v' ns) => ShowNotes_spec ns v' w' hv (by omega) hwl)
    have HI := Lib.hid (fun v' w' (hb : Below w.heap.size w w') (hv : NoSlc w' v' ns) => ShowNotes_impl ns v' w' (HL.out.on hb) hv (by omega) (fun x hx => ⟨⟨(HFF.out x hx).1, (HFF.out x hx).2.1⟩, hwl x hx⟩))
    have HE := Lib.hid (fun v' v2 w' (hv : NoSlc w' v' ns) (hv2 : NoSlc w' v2 ns) => eqNoteS_same ns v' v2 w' hv hv2 (by omega))
    generalize showNotes ns = y at HS HI
    have hyy : (y != y) = false := by simp
    clear hrs hsm hr0 hr1 HZ hwl
    go_wp2_with fail
    refine (HT.out _ g1).mono ?_
    rintro e w2 ⟨v1, rfl, hv1, g2⟩
    have hB2 := g1.trans (g2.mono g1.size)
    go_wp2_with fail
    refine (HS.out _ _ hv1).mono ?_
    rintro e w3 ⟨rfl, g3⟩
    have hB3 := hB2.trans (g3.mono hB2.size)
    go_wp2_with fail
    refine (HT.out _ hB3).mono ?_
    rintro e w5 ⟨v2, rfl, hv2, g5⟩
    have hB5 := hB3.trans (g5.mono hB3.size)
    have HV2 := Lib.hid hv2
    obtain ⟨a2, c2', rfl, _⟩ := hv2.form
    rw [HM.out]
    rw [HM.out] at HV2
    clear hv2
    go_wp2_with fail
    refine (HI.out _ _ hB5 HV2.out).mono ?_
    rintro e w6 ⟨rfl, g6⟩
    have hB6 := hB5.trans (g6.mono hB5.size)
    have HV6 := Lib.hid (HV2.out.on g6)
    go_wp2_with fail
    refine (HT.out _ hB6).mono ?_
    rintro e w9 ⟨v3, rfl, hv3, g9⟩
    have hB9 := hB6.trans (g9.mono hB6.size)
    go_wp2_with fail
    refine (HE.out _ _ _ (HV6.out.on g9) hv3).mono ?_
    rintro e w10 ⟨rfl, g10⟩
    go_wp2_with fail
    go_ret
    exact ⟨rfl, hB9.trans (g10.mono hB9.size)⟩

set_option maxRecDepth 100000 in
theorem lifted (os : Os) (started : os.Started) (H : Type) (enc : TypeId × Value → H) :
    ReturnsInHanded {} Tryz.checked os 5 .any (fun w args => (Rows.fnExactShowNotesSpec.pre enc Tryz.prog Tryz.f5 Rows.fnExactShowNotesRow.domain false w args ∧ laidMetH Tryz.prog Rows.fnExactShowNotesRow.laid w) ∧ sizedMet enc Tryz.prog Tryz.f5 (OpenSpec.ofChange Rows.fnExactShowNotesSpec) false w args)
      (Rows.fnExactShowNotesSpec.post enc Tryz.prog Tryz.f5 false true false false) := by
  refine returnsInHanded_of_calls (C := Tryz.checked) own started (by kernel_rfl)
    (ChangeSpec.witness_shaped (enc := enc) (C := Tryz.checked) (os := os) (X := fun w _ => laidMetH Tryz.prog Rows.fnExactShowNotesRow.laid w) false (World.laidAll Tryz.prog os Rows.fnExactShowNotesRow.laid) #[.slice none 0 0] 8 (World.laidAll_os _ _ _)
      (World.shaped_of_ZipB (by kernel_rfl) (by kernel_rfl)) (by kernel_rfl) (by kernel_rfl) (by kernel_rfl)
      (by rw [MakeChecks.laidMetH_plain _ _ _ (by kernel_rfl)]; exact laidMet_laidAll _ (by kernel_rfl) (by kernel_rfl))) ?_
  intro w0 tape i _ hsh0 _ hok hpre _
  obtain ⟨_, _, _, fn', hfn', _, _, _, _, hval00⟩ := hok
  obtain rfl : fn' = Tryz.f5 := Option.some.inj (hfn'.symm.trans Tryz.func5)
  obtain ⟨⟨⟨ds, gs, before, hw, _⟩, hx⟩, _⟩ := hpre
  have hW0 := DataW.Whole.of_heap (w' := w0.forCall tape i) (by rfl) hw
  have hL0 : laidMetH Tryz.prog Rows.fnExactShowNotesRow.laid (w0.forCall tape i) := hx.of_heap (by rfl)
  suffices hgo : ∀ (W : World) (base : Nat) (args : Array Value), (∀ (j : Nat) t v, Tryz.f5.params[j]? = some t → args[j]? = some v → Value.okWide Tryz.prog W .any base t v) →
      DataW.Whole enc Tryz.prog Tryz.f5.params.toList Rows.fnExactShowNotesSpec.vars false W args.toList ds gs before → laidMetH Tryz.prog Rows.fnExactShowNotesRow.laid W → W.ShapedOpen Tryz.prog →
      Calls Tryz.prog 5 args W fun e W' => ∃ v, e = .returned v ∧ Rows.fnExactShowNotesSpec.post enc Tryz.prog Tryz.f5 false true false false W args v W' by
    refine (hgo _ _ _ hval00 hW0 hL0 hsh0).mono fun e W' ⟨v, he, hp⟩ => ?_
    subst he
    exact ChangeSpec.post_blind hp
  clear hsh0 hval00 hW0 hL0 hx hw hfn'
  intro W base args hval0 hW hL hsh
  have hval : ∀ (j : Nat) t v, Tryz.f5.params[j]? = some t → args[j]? = some v → Value.okWide Tryz.prog W .any base t v := hval0
  have hW' := hW
  obtain ⟨p, q, hA0, hV, rfl, hfz, hnd⟩ := hW
  have hA : DataW.TrodAll enc Tryz.prog W 0 (fun _ => true) true Tryz.f5.params.toList args.toList ds p := hA0
  rw [Tryz.params5] at hA hval
  obtain ⟨v0, vs0, d0, ds0, p0, q0, hargs, rfl, rfl, h0, r0⟩ := trodAll_cons hA
  obtain ⟨rfl, rfl, rfl⟩ := trodAll_nil r0
  obtain rfl : args = #[v0] := by cases args; simp_all
  obtain ⟨rfl, rfl⟩ := trodVars_none hV
  have k0 := h0
  have lt0 : ∀ x ∈ p0, x.block < W.heap.size := by obtain ⟨m, hm⟩ := k0; exact DataW.trod_lt m _ _ _ hm
  obtain ⟨ns0, ha0, hf0⟩ := open_notes (hval 0 40 v0 rfl rfl) h0
  refine (walk ns0 _ W ha0 hf0 (laid_exactShowNotes hL)).mono fun e W' ⟨he, bel⟩ => ?_
  subst he
  exact ⟨_, rfl, _, _, _, [], _, [], hW', trodAll_mk1 (shut_bool Tryz.underlying4 _), (trodAll_cons_mk (Below.trod laidOut (by kernel_rfl) (of_decide_eq_true (by kernel_rfl)) k0 bel lt0) trodAll_mk0), rfl, bel.frame _, fun h => by cases h⟩

theorem over : Rows.fnExactShowNotesRow.holds Tryz.pinned (OpenSpec.ofChange Rows.fnExactShowNotesSpec) :=
  OpenClaim.holds_of_wide 5 Tryz.f5 rfl rfl rfl rfl rfl rfl rfl ⟨rfl, rfl, rfl, rfl, rfl⟩ rfl rfl rfl rfl rfl (by kernel_rfl) Tryz.func5 (by kernel_rfl)
    (of_decide_eq_true (by kernel_rfl)) (by unfold Func.isWrapper; first | (rw [if_pos (by decide +kernel)]; kernel_rfl) | (rw [if_neg (by decide +kernel)]; exact ⟨rfl, rfl⟩))
    (fun os started H enc _ => lifted os started H enc)

theorem proved : Rows.FnExactShowNotesCardSaid :=
  Claim7.holds_tied_plain_at .later [] [.data, .data, .data, .sentinel, .sentinel] true (true, "a1cf6983f5fe4ee1b4e65e78cdbeb28e6eebf6f93487dbc5debf1b50fae14a9d") true over (fun _ h => by cases h) (by kernel_rfl) (fun _ h => by cases h) fnExactShowNotes_row_tie rfl ⟨rfl, rfl⟩ (by kernel_rfl) rfl
    (fun f fn hf hfn => by
      obtain rfl : f = 5 := Option.some.inj ((show Tryz.prog.funcNamed "loop.example/g00521/laws.FnExactShowNotes" = some 5 by kernel_rfl).symm.trans hf) |>.symm
      obtain rfl : fn = Tryz.f5 := (Option.some.inj (Tryz.func5.symm.trans hfn)).symm
      exact ⟨by kernel_rfl, fun j t ht => by
        have hm : t ∈ Tryz.f5.params.toList := by simpa using Array.mem_of_getElem? ht
        have hall : (Tryz.f5.params.toList.all fun u => !Tryz.prog.wantsStandIn u) = true := by kernel_rfl
        exact (show Tryz.prog.wantsStandIn t = false by simpa using List.all_eq_true.1 hall t hm)⟩)
    (by kernel_rfl)
#print axioms proved
end Go.Proofs.YtmcjfjchpclamaaGreatDoor.fnExactShowNotes
