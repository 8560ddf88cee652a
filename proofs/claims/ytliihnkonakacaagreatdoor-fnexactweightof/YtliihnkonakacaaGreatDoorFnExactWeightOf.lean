/- Proved: for every list of Parts FnExactWeightOf answers true: the program's WeightOf answers as the reference's, and its argument stays. No condition. -/
import Derived.Test.YtliihnkonakacaaGreatDoorImp10d
import Derived.Test.YtliihnkonakacaaGreatDoorOpen10b
import Derived.Test.YtliihnkonakacaaGreatDoorDoor10
import Derived.Test.YtliihnkonakacaaGreatDoorRows
import Derived.Test.YtliihnkonakacaaGreatDoorCards
import Derived.Test.YtliihnkonakacaaGreatDoorTie
import Derived.WalkKit
import Derived.ProofKit
import Derived.OpenShut
import Derived.ShutString
import Derived.ChangeOld
import Derived.Below
import Derived.OpenVars
import Derived.ChangeVars
import Derived.Handed
import Derived.Lay
import Derived.LaidLaws
import Derived.MakeChecks
import Derived.SevenTiedAt
import Derived.Stop.Joined
namespace Go.Proofs.YtliihnkonakacaaGreatDoor.fnExactWeightOf
open Go.ChangeShapes Go.WideShapes Go.ChangeAt Go.RowKit
open Go.ChangeMaps (open_string shut_string)
set_option linter.unusedVariables false

theorem own : ownKnob Tryz.prog.godebug = none := by kernel_rfl
theorem laidOut : laidOutB Tryz.prog = true := by kernel_rfl

open Go.Proofs.YtliihnkonakacaaGreatDoor.P1 Go.Proofs.YtliihnkonakacaaGreatDoor.B1 Go.Proofs.YtliihnkonakacaaGreatDoor.B2 Go.Proofs.YtliihnkonakacaaGreatDoor.T1 Go.Proofs.YtliihnkonakacaaGreatDoor.BT Go.Proofs.YtliihnkonakacaaGreatDoor.P5 Go.Proofs.YtliihnkonakacaaGreatDoor.P6 Go.Proofs.YtliihnkonakacaaGreatDoor.B5 Go.Proofs.YtliihnkonakacaaGreatDoor.B6 Go.Proofs.YtliihnkonakacaaGreatDoor.W8 Go.Proofs.YtliihnkonakacaaGreatDoor.RC Go.Proofs.YtliihnkonakacaaGreatDoor.D1 Go.Proofs.YtliihnkonakacaaGreatDoor.P10 Go.Proofs.YtliihnkonakacaaGreatDoor.B10
set_option maxRecDepth 20000 in
set_option maxHeartbeats 2000000 in
theorem walk (xs : List Pv) (v : Value) (w : World) (h : PtSlc w v xs) (hf : ∀ x ∈ xs, PtFit x) (L : B5.Pow w) :
    Calls Tryz.prog 8 #[v] w (Ans (.bool true) w) := by
  have HA := Lib.hid h
  have HL := Lib.hid L
  have HZ := Lib.hid (szPartS_laws xs v w h hf)
  obtain ⟨a, cap, rfl, _⟩ := h.form
  clear h hf L
  generalize hm : xs.length = m at *
  have HM := Lib.hid hm
  clear hm
  go_enter Tryz.func8, Tryz.ntmps8
  go_wp2_with fail
  refine HZ.out.mono ?_
  rintro e w1 ⟨r, rfl, hr0, hr1, hrs, g1⟩
  by_cases hneg : r < 0
  · go_wp2_with fail
    go_ret
    exact ⟨rfl, g1⟩
  · have hsm := hrs (by omega)
    have hlen : xs.length ≤ 2000000 := by
      unfold szPts at hsm
      have : (pts xs).length = xs.length := by simp [pts]
      omega
    have hfit : ∀ (x : Pv), x.p ∈ pts xs → Fits x := fits_of hsm
    have hbs : ∀ p ∈ pts xs, p.bs.length ≤ 2000000 := fun p hp => by have h1 : p.bs.length ≤ 1048576 := (hfit ⟨p, undef⟩ hp).2.2.1; omega
    have hmem : ∀ (ys : List Pv), pts ys = pts xs → ∀ y ∈ ys, Fits y := fun ys hy y hm => hfit y (by rw [← hy]; exact List.mem_map.2 ⟨y, hm, rfl⟩)
    have hly : ∀ (ys : List Pv), pts ys = pts xs → ys.length = m := fun ys hy => by
      have := congrArg List.length hy
      unfold pts at this
      rw [List.length_map, List.length_map] at this
      rw [this]; exact HM.out
    have HT := Lib.hid (fun w' (hb : Below w.heap.size w w') => toPartS_laws xs _ w' (HA.out.on hb) (fun x hx => hbs x.p (List.mem_map.2 ⟨x, hx, rfl⟩)) hlen)
    have HS := Lib.hid (fun v' ys w' (hv : PtSlc w' v' ys) (hy : pts ys = pts xs) => by
      have := WeightOf_spec ys v' w' hv (hmem ys hy) (by rw [hly ys hy, ← HM.out]; exact hlen)
      rw [hy] at this
      exact this)
    have HI := Lib.hid (fun v' ys w' (hb : Below w.heap.size w w') (hv : PtSlc w' v' ys) (hy : pts ys = pts xs) => by
      have := WeightOf_impl ys v' w' (HL.out.on hb) hv (hmem ys hy) (by rw [hly ys hy, ← HM.out]; exact hlen)
      rw [hy] at this
      exact this)
    have HE := Lib.hid (fun v' v2 ys zs w' (hv : PtSlc w' v' ys) (hv2 : PtSlc w' v2 zs) (hy : pts ys = pts xs) (hz : pts zs = pts xs) => eqPartS_same ys zs v' v2 w' hv hv2 (hy.trans hz.symm) (by rw [hy]; exact hbs) (by rw [hly ys hy, ← HM.out]; exact hlen))
    have HY := Lib.hid hly
    generalize weightOf (pts xs) = y at HS HI
    have hyy : (y != y) = false := by simp
    clear hrs hsm hr0 hr1 HZ hlen hfit hbs hmem hly
    go_wp2_with fail
    refine (HT.out _ g1).mono ?_
    rintro e w2 ⟨v1, y1, rfl, hv1, hy1, g2⟩
    have hB2 := g1.trans (g2.mono g1.size)
    go_wp2_with fail
    refine (HS.out _ _ _ hv1 hy1).mono ?_
    rintro e w3 ⟨rfl, g3⟩
    have hB3 := hB2.trans (g3.mono hB2.size)
    go_wp2_with fail
    refine (HT.out _ hB3).mono ?_
    rintro e w5 ⟨v2, y2, rfl, hv2, hy2, g5⟩
    have hB5 := hB3.trans (g5.mono hB3.size)
    have HV2 := Lib.hid hv2
    have HY2 := Lib.hid hy2
    obtain ⟨a2, c2', rfl, _⟩ := hv2.form
    rw [HY.out y2 hy2]
    rw [HY.out y2 hy2] at HV2
    clear hv2
    go_wp2_with fail
    refine (HI.out _ _ _ hB5 HV2.out HY2.out).mono ?_
    rintro e w6 ⟨rfl, g6⟩
    have hB6 := hB5.trans (g6.mono hB5.size)
    have HV6 := Lib.hid (HV2.out.on g6)
    all_goals
      go_wp2_with fail
      refine (HT.out _ hB6).mono ?_
      rintro e w7 ⟨v3, y3, rfl, hv3, hy3, g7⟩
      have hB7 := hB6.trans (g7.mono hB6.size)
      go_wp2_with fail
      refine (HE.out _ _ _ _ _ (HV6.out.on g7) hv3 HY2.out hy3).mono ?_
      rintro e w8 ⟨rfl, g8⟩
      go_wp2_with fail
      go_ret
      exact ⟨rfl, hB7.trans (g8.mono hB7.size)⟩

set_option maxRecDepth 100000 in
theorem lifted (os : Os) (started : os.Started) (H : Type) (enc : TypeId × Value → H) :
    ReturnsInHanded {} Tryz.checked os 8 .any (fun w args => (Rows.fnExactWeightOfSpec.pre enc Tryz.prog Tryz.f8 Rows.fnExactWeightOfRow.domain false w args ∧ laidMetH Tryz.prog Rows.fnExactWeightOfRow.laid w) ∧ sizedMet enc Tryz.prog Tryz.f8 (OpenSpec.ofChange Rows.fnExactWeightOfSpec) false w args)
      (Rows.fnExactWeightOfSpec.post enc Tryz.prog Tryz.f8 false true false false) := by
  refine returnsInHanded_of_calls (C := Tryz.checked) own started (by kernel_rfl)
    (ChangeSpec.witness_shaped (enc := enc) (C := Tryz.checked) (os := os) (X := fun w _ => laidMetH Tryz.prog Rows.fnExactWeightOfRow.laid w) false (World.laidAll Tryz.prog os Rows.fnExactWeightOfRow.laid) #[.slice none 0 0] 8 (World.laidAll_os _ _ _)
      (World.shaped_of_ZipB (by kernel_rfl) (by kernel_rfl)) (by kernel_rfl) (by kernel_rfl) (by kernel_rfl)
      (by rw [MakeChecks.laidMetH_plain _ _ _ (by kernel_rfl)]; exact laidMet_laidAll _ (by kernel_rfl) (by kernel_rfl))) ?_
  intro w0 tape i _ hsh0 _ hok hpre _
  obtain ⟨_, _, _, fn', hfn', _, _, _, _, hval00⟩ := hok
  obtain rfl : fn' = Tryz.f8 := Option.some.inj (hfn'.symm.trans Tryz.func8)
  obtain ⟨⟨⟨ds, gs, before, hw, _⟩, hx⟩, _⟩ := hpre
  have hW0 := DataW.Whole.of_heap (w' := w0.forCall tape i) (by rfl) hw
  have hL0 : laidMetH Tryz.prog Rows.fnExactWeightOfRow.laid (w0.forCall tape i) := hx.of_heap (by rfl)
  suffices hgo : ∀ (W : World) (base : Nat) (args : Array Value), (∀ (j : Nat) t v, Tryz.f8.params[j]? = some t → args[j]? = some v → Value.okWide Tryz.prog W .any base t v) →
      DataW.Whole enc Tryz.prog Tryz.f8.params.toList Rows.fnExactWeightOfSpec.vars false W args.toList ds gs before → laidMetH Tryz.prog Rows.fnExactWeightOfRow.laid W → W.ShapedOpen Tryz.prog →
      Calls Tryz.prog 8 args W fun e W' => ∃ v, e = .returned v ∧ Rows.fnExactWeightOfSpec.post enc Tryz.prog Tryz.f8 false true false false W args v W' by
    refine (hgo _ _ _ hval00 hW0 hL0 hsh0).mono fun e W' ⟨v, he, hp⟩ => ?_
    subst he
    exact ChangeSpec.post_blind hp
  clear hsh0 hval00 hW0 hL0 hx hw hfn'
  intro W base args hval0 hW hL hsh
  have hval : ∀ (j : Nat) t v, Tryz.f8.params[j]? = some t → args[j]? = some v → Value.okWide Tryz.prog W .any base t v := hval0
  have hW' := hW
  obtain ⟨p, q, hA0, hV, rfl, hfz, hnd⟩ := hW
  have hA : DataW.TrodAll enc Tryz.prog W 0 (fun _ => true) true Tryz.f8.params.toList args.toList ds p := hA0
  rw [Tryz.params8] at hA hval
  obtain ⟨v0, vs0, d0, ds0, p0, q0, hargs, rfl, rfl, h0, r0⟩ := trodAll_cons hA
  obtain ⟨rfl, rfl, rfl⟩ := trodAll_nil r0
  obtain rfl : args = #[v0] := by cases args; simp_all
  obtain ⟨rfl, rfl⟩ := trodVars_none hV
  have k0 := h0
  have lt0 : ∀ x ∈ p0, x.block < W.heap.size := by obtain ⟨m, hm⟩ := k0; exact DataW.trod_lt m _ _ _ hm
  obtain ⟨n0, hs0, hn0⟩ := open_parts (hval 0 38 v0 rfl rfl) h0
  refine (walk n0 v0 W hs0 hn0 (laid_exactWeightOf hL)).mono fun e W' ⟨he, bel⟩ => ?_
  subst he
  exact ⟨_, rfl, _, _, _, [], _, [], hW', trodAll_mk1 (shut_bool Tryz.underlying4 _), (trodAll_cons_mk (Below.trod laidOut (by kernel_rfl) (of_decide_eq_true (by kernel_rfl)) k0 bel lt0) trodAll_mk0), rfl, bel.frame _, fun h => by cases h⟩

theorem over : Rows.fnExactWeightOfRow.holds Tryz.pinned (OpenSpec.ofChange Rows.fnExactWeightOfSpec) :=
  OpenClaim.holds_of_wide 8 Tryz.f8 rfl rfl rfl rfl rfl rfl rfl ⟨rfl, rfl, rfl, rfl, rfl⟩ rfl rfl rfl rfl rfl (by kernel_rfl) Tryz.func8 (by kernel_rfl)
    (of_decide_eq_true (by kernel_rfl)) (by unfold Func.isWrapper; first | (rw [if_pos (by decide +kernel)]; kernel_rfl) | (rw [if_neg (by decide +kernel)]; exact ⟨rfl, rfl⟩))
    (fun os started H enc _ => lifted os started H enc)

theorem proved : Rows.FnExactWeightOfCardSaid :=
  Claim7.holds_tied_plain_at .later [] [.data, .data, .data, .sentinel, .sentinel] true (true, "18d167c2252c88c970b211128c661b90930c25d81b2826950189ef9d087f903c") true over (fun _ h => by cases h) (by kernel_rfl) (fun _ h => by cases h) fnExactWeightOf_row_tie rfl ⟨rfl, rfl⟩ (by kernel_rfl) rfl
    (fun f fn hf hfn => by
      obtain rfl : f = 8 := Option.some.inj ((show Tryz.prog.funcNamed "loop.example/g00521/laws.FnExactWeightOf" = some 8 by kernel_rfl).symm.trans hf) |>.symm
      obtain rfl : fn = Tryz.f8 := (Option.some.inj (Tryz.func8.symm.trans hfn)).symm
      exact ⟨by kernel_rfl, fun j t ht => by
        have hm : t ∈ Tryz.f8.params.toList := by simpa using Array.mem_of_getElem? ht
        have hall : (Tryz.f8.params.toList.all fun u => !Tryz.prog.wantsStandIn u) = true := by kernel_rfl
        exact (show Tryz.prog.wantsStandIn t = false by simpa using List.all_eq_true.1 hall t hm)⟩)
    (by kernel_rfl)
#print axioms proved
end Go.Proofs.YtliihnkonakacaaGreatDoor.fnExactWeightOf
