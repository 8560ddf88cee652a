/- Proved: for every string FnExactTokensOf answers true: the program's TokensOf answers as the reference's, in memory of its own (of a string of more than 1048576 bytes the law asks nothing). No condition. -/
import Derived.Test.YtniemiofffecjaaDoorBase5t
import Derived.Test.YtniemiofffecjaaDoorImp5g
import Derived.Test.YtniemiofffecjaaDoorRows
import Derived.Test.YtniemiofffecjaaDoorCards
import Derived.Test.YtniemiofffecjaaDoorTie
import Derived.WalkKit
import Derived.ProofKit
import Derived.OpenShut
import Derived.ShutString
import Derived.ChangeOld
import Derived.Below
import Derived.OpenVars
import Derived.ChangeVars
import Derived.Handed
import Derived.Lay
import Derived.LaidLaws
import Derived.MakeChecks
import Derived.SevenTiedAt
import Derived.Stop.Joined
namespace Go.Proofs.YtniemiofffecjaaDoor.fnExactTokensOf
open Go.ChangeShapes Go.WideShapes Go.ChangeAt Go.RowKit
open Go.ChangeMaps (open_string shut_string)
set_option linter.unusedVariables false

theorem own : ownKnob Tryd.prog.godebug = none := by kernel_rfl
theorem laidOut : laidOutB Tryd.prog = true := by kernel_rfl

open Go.Proofs.YtniemiofffecjaaDoor.P1 Go.Proofs.YtniemiofffecjaaDoor.B1 Go.Proofs.YtniemiofffecjaaDoor.B2 Go.Proofs.YtniemiofffecjaaDoor.T1 Go.Proofs.YtniemiofffecjaaDoor.BT Go.Proofs.YtniemiofffecjaaDoor.P5 Go.Proofs.YtniemiofffecjaaDoor.B5 Go.Proofs.YtniemiofffecjaaDoor.D1
theorem few (s : List UInt8) (hl : s.length ≤ 1048576) : (tokensOf s).length ≤ 2000000 := by
  unfold tokensOf
  split
  · simp
  · have := toks_len s.length s (Nat.le_refl _)
    omega
set_option maxRecDepth 20000 in
set_option maxHeartbeats 2000000 in
theorem walk (s : List UInt8) (w : World) :
    Calls Tryd.prog 6 #[.string ⟨s.toArray⟩] w (Ans (.bool true) w) := by
  obtain ⟨L, eL⟩ : ∃ L, s.length = L := ⟨_, rfl⟩
  have hlen := fun (w' : World) (t : TypeId) => str_lenN s L eL w' t
  by_cases hbig : 1048576 < L
  · have hbig' : (1048576 : Int) < (L : Int) := by omega
    go_enter Tryd.func6, Tryd.ntmps6
    go_wp2
    go_ret
    exact ⟨rfl, Below.refl _ _⟩
  · have hbig' : ¬ (1048576 : Int) < (L : Int) := by omega
    have HF := Lib.hid (few s (by omega))
    have HS := Lib.hid (fun w' => TokensOf_spec s w' (by omega))
    have HI := Lib.hid (fun w' => TokensOf_impl s w' (by omega))
    unfold Tokens at HS HI
    obtain ⟨ts, ets⟩ : ∃ ts, tokensOf s = ts := ⟨_, rfl⟩
    rw [ets] at HF HS HI
    obtain ⟨n, en⟩ : ∃ n, ts.length = n := ⟨_, rfl⟩
    have HN := Lib.hid en
    have hn2 : n ≤ 2000000 := by rw [← en]; exact HF.out
    clear eL ets en
    obtain ⟨m, em⟩ : ∃ m, 1 + 3 * n = m := ⟨_, rfl⟩
    have hm0 : ¬ (m : Int) < 0 := by omega
    have HM := Lib.hid em
    clear em
    go_enter Tryd.func6, Tryd.ntmps6
    go_wp2_with fail
    refine (HS.out _).mono ?_
    rintro e w1 ⟨v1, rfl, o1, b1⟩
    have hv1 := Lib.hid o1.val
    have hu1 := Lib.hid o1.under
    clear o1
    go_wp2_with fail
    refine (HI.out _).mono ?_
    rintro e w2 ⟨v2, rfl, o2, b2⟩
    have hB := b1.trans (b2.mono b1.size)
    have O2 := Lib.hid o2
    have hv1' := Lib.hid (hv1.out.on b2)
    clear o2
    go_wp2_with fail
    refine (eqS_same ts v2 v1 _ O2.out.val hv1'.out HF.out).mono ?_
    rintro e w3 ⟨rfl, g3⟩
    have O3 := Lib.hid (show Toks w3 v2 w1.heap.size ts from own_below O2.out g3)
    have hv3 := Lib.hid (hv1'.out.on g3)
    have hB3 := hB.trans (g3.mono hB.size)
    have hz3 : w1.heap.size ≤ w3.heap.size := Nat.le_trans b2.size g3.size
    clear O2 hv1 hv1' g3 b2
    go_wp2_with fail
    refine (mark_val ts v2 w1.heap.size 1 n _ HN.out O3.out hz3 hn2 (by decide) (by decide)).mono ?_
    rintro e w4 ⟨rfl, k4, g4⟩
    rw [HM.out]
    have hv4 := Lib.hid (hv3.out.below g4 hu1.out)
    have hB4 : Below w.heap.size w w4 := hB3.trans (g4.mono b1.size)
    clear hv3 O3 hu1
    go_wp2_with fail
    refine (held_val v2 1 n _ k4 hn2 (by decide) (by decide)).mono ?_
    rintro e w5 ⟨rfl, g5⟩
    rw [HM.out]
    have k5 := Lib.hid (k4.on g5)
    have hv5 := Lib.hid (hv4.out.on g5)
    have hB5 := hB4.trans (g5.mono hB4.size)
    clear k4 hv4 g5 g4
    go_wp2_with fail
    refine (HI.out _).mono ?_
    rintro e w6 ⟨v6, rfl, o6, b6⟩
    have k6 := Lib.hid (k5.out.on b6)
    have hv6 := Lib.hid (hv5.out.on b6)
    have hB6 := hB5.trans (b6.mono hB5.size)
    have O6 := Lib.hid o6.val
    clear k5 hv5 b6 o6
    go_wp2_with fail
    refine (eqS_same ts v6 v1 _ O6.out hv6.out HF.out).mono ?_
    rintro e w7 ⟨rfl, g7⟩
    have k7 := Lib.hid (k6.out.on g7)
    have hB7 := hB6.trans (g7.mono hB6.size)
    clear k6 hv6 O6 g7
    go_wp2_with fail
    refine (held_val v2 1 n _ k7.out hn2 (by decide) (by decide)).mono ?_
    rintro e w8 ⟨rfl, g8⟩
    rw [HM.out]
    have hB8 := hB7.trans (g8.mono hB7.size)
    clear k7 g8
    go_wp2
    go_ret
    exact ⟨rfl, hB8⟩

set_option maxRecDepth 100000 in
theorem lifted (os : Os) (started : os.Started) (H : Type) (enc : TypeId × Value → H) :
    ReturnsInHanded {} Tryd.checked os 6 .any (fun w args => (Rows.fnExactTokensOfSpec.pre enc Tryd.prog Tryd.f6 Rows.fnExactTokensOfRow.domain false w args ∧ laidMetH Tryd.prog Rows.fnExactTokensOfRow.laid w) ∧ sizedMet enc Tryd.prog Tryd.f6 (OpenSpec.ofChange Rows.fnExactTokensOfSpec) false w args)
      (Rows.fnExactTokensOfSpec.post enc Tryd.prog Tryd.f6 false true false false) := by
  refine returnsInHanded_of_calls (C := Tryd.checked) own started (by kernel_rfl)
    (ChangeSpec.witness_shaped (enc := enc) (C := Tryd.checked) (os := os) (X := fun w _ => laidMetH Tryd.prog Rows.fnExactTokensOfRow.laid w) false (World.laidAll Tryd.prog os Rows.fnExactTokensOfRow.laid) #[.string ⟨#[]⟩] 8 (World.laidAll_os _ _ _)
      (World.shaped_of_ZipB (by kernel_rfl) (by kernel_rfl)) (by kernel_rfl) (by kernel_rfl) (by kernel_rfl)
      (by rw [MakeChecks.laidMetH_plain _ _ _ (by kernel_rfl)]; exact laidMet_laidAll _ (by kernel_rfl) (by kernel_rfl))) ?_
  intro w0 tape i _ hsh0 _ hok hpre _
  obtain ⟨_, _, _, fn', hfn', _, _, _, _, hval00⟩ := hok
  obtain rfl : fn' = Tryd.f6 := Option.some.inj (hfn'.symm.trans Tryd.func6)
  obtain ⟨⟨⟨ds, gs, before, hw, _⟩, hx⟩, _⟩ := hpre
  have hW0 := DataW.Whole.of_heap (w' := w0.forCall tape i) (by rfl) hw
  have hL0 : laidMetH Tryd.prog Rows.fnExactTokensOfRow.laid (w0.forCall tape i) := hx.of_heap (by rfl)
  suffices hgo : ∀ (W : World) (base : Nat) (args : Array Value), (∀ (j : Nat) t v, Tryd.f6.params[j]? = some t → args[j]? = some v → Value.okWide Tryd.prog W .any base t v) →
      DataW.Whole enc Tryd.prog Tryd.f6.params.toList Rows.fnExactTokensOfSpec.vars false W args.toList ds gs before → laidMetH Tryd.prog Rows.fnExactTokensOfRow.laid W → W.ShapedOpen Tryd.prog →
      Calls Tryd.prog 6 args W fun e W' => ∃ v, e = .returned v ∧ Rows.fnExactTokensOfSpec.post enc Tryd.prog Tryd.f6 false true false false W args v W' by
    refine (hgo _ _ _ hval00 hW0 hL0 hsh0).mono fun e W' ⟨v, he, hp⟩ => ?_
    subst he
    exact ChangeSpec.post_blind hp
  clear hsh0 hval00 hW0 hL0 hx hw hfn'
  intro W base args hval0 hW hL hsh
  have hval : ∀ (j : Nat) t v, Tryd.f6.params[j]? = some t → args[j]? = some v → Value.okWide Tryd.prog W .any base t v := hval0
  have hW' := hW
  obtain ⟨p, q, hA0, hV, rfl, hfz, hnd⟩ := hW
  have hA : DataW.TrodAll enc Tryd.prog W 0 (fun _ => true) true Tryd.f6.params.toList args.toList ds p := hA0
  rw [Tryd.params6] at hA hval
  obtain ⟨v0, vs0, d0, ds0, p0, q0, hargs, rfl, rfl, h0, r0⟩ := trodAll_cons hA
  obtain ⟨rfl, rfl, rfl⟩ := trodAll_nil r0
  obtain rfl : args = #[v0] := by cases args; simp_all
  obtain ⟨rfl, rfl⟩ := trodVars_none hV
  have k0 := h0
  have lt0 : ∀ x ∈ p0, x.block < W.heap.size := by obtain ⟨m, hm⟩ := k0; exact DataW.trod_lt m _ _ _ hm
  obtain ⟨s0, rfl, rfl, rfl, _⟩ := open_string Tryd.underlying9 (hval 0 9 v0 rfl rfl) h0
  obtain ⟨s, rfl⟩ : ∃ l : List UInt8, s0 = ⟨l.toArray⟩ := ⟨s0.data.toList, by cases s0; simp⟩
  refine (walk s W).mono fun e W' ⟨he, bel⟩ => ?_
  subst he
  exact ⟨_, rfl, _, _, _, [], _, [], hW', trodAll_mk1 (shut_bool Tryd.underlying4 _), (trodAll_cons_mk (Below.trod laidOut (by kernel_rfl) (of_decide_eq_true (by kernel_rfl)) k0 bel lt0) trodAll_mk0), rfl, bel.frame _, fun h => by cases h⟩

theorem over : Rows.fnExactTokensOfRow.holds Tryd.pinned (OpenSpec.ofChange Rows.fnExactTokensOfSpec) :=
  OpenClaim.holds_of_wide 6 Tryd.f6 rfl rfl rfl rfl rfl rfl rfl ⟨rfl, rfl, rfl, rfl, rfl⟩ rfl rfl rfl rfl rfl (by kernel_rfl) Tryd.func6 (by kernel_rfl)
    (of_decide_eq_true (by kernel_rfl)) (by unfold Func.isWrapper; first | (rw [if_pos (by decide +kernel)]; kernel_rfl) | (rw [if_neg (by decide +kernel)]; exact ⟨rfl, rfl⟩))
    (fun os started H enc _ => lifted os started H enc)

theorem proved : Rows.FnExactTokensOfCardSaid :=
  Claim7.holds_tied_plain_at .later [] [.data, .data, .data, .sentinel, .sentinel] true (true, "e6b3d22f4928ef2684de4cbbd34100187f2a32140dcc95ee0039e0cc9b4c5a61") true over (fun _ h => by cases h) (by kernel_rfl) (fun _ h => by cases h) fnExactTokensOf_row_tie rfl ⟨rfl, rfl⟩ (by kernel_rfl) rfl
    (fun f fn hf hfn => by
      obtain rfl : f = 6 := Option.some.inj ((show Tryd.prog.funcNamed "loop.example/g00521/laws.FnExactTokensOf" = some 6 by kernel_rfl).symm.trans hf) |>.symm
      obtain rfl : fn = Tryd.f6 := (Option.some.inj (Tryd.func6.symm.trans hfn)).symm
      exact ⟨by kernel_rfl, fun j t ht => by
        have hm : t ∈ Tryd.f6.params.toList := by simpa using Array.mem_of_getElem? ht
        have hall : (Tryd.f6.params.toList.all fun u => !Tryd.prog.wantsStandIn u) = true := by kernel_rfl
        exact (show Tryd.prog.wantsStandIn t = false by simpa using List.all_eq_true.1 hall t hm)⟩)
    (by kernel_rfl)
#print axioms proved
end Go.Proofs.YtniemiofffecjaaDoor.fnExactTokensOf
