/- Proved: for every int64 and every Value FnExactFits answers true: the program's Fits answers as the reference's. No condition. -/
import Derived.Test.YtjgfbbjecbeipaaDoorBase8
import Derived.Test.YtjgfbbjecbeipaaDoorBase6n
import Derived.Test.YtjgfbbjecbeipaaDoorBase6b
import Derived.Test.YtjgfbbjecbeipaaDoorImp8f
import Derived.Test.YtjgfbbjecbeipaaDoorDoor8
import Derived.Test.YtjgfbbjecbeipaaDoorRows
import Derived.Test.YtjgfbbjecbeipaaDoorCards
import Derived.Test.YtjgfbbjecbeipaaDoorTie
import Derived.WalkKit
import Derived.ProofKit
import Derived.OpenShut
import Derived.ShutString
import Derived.ChangeOld
import Derived.Below
import Derived.OpenVars
import Derived.ChangeVars
import Derived.Handed
import Derived.Lay
import Derived.LaidLaws
import Derived.MakeChecks
import Derived.SevenTiedAt
import Derived.Stop.Joined
namespace Go.Proofs.YtjgfbbjecbeipaaDoor.fnExactFits
open Go.ChangeShapes Go.WideShapes Go.ChangeAt Go.RowKit
open Go.ChangeMaps (open_string shut_string)
set_option linter.unusedVariables false

theorem own : ownKnob Tryd.prog.godebug = none := by kernel_rfl
theorem laidOut : laidOutB Tryd.prog = true := by kernel_rfl

open Go.Proofs.YtjgfbbjecbeipaaDoor.P1 Go.Proofs.YtjgfbbjecbeipaaDoor.B1 Go.Proofs.YtjgfbbjecbeipaaDoor.B2 Go.Proofs.YtjgfbbjecbeipaaDoor.T1 Go.Proofs.YtjgfbbjecbeipaaDoor.BT Go.Proofs.YtjgfbbjecbeipaaDoor.P5 Go.Proofs.YtjgfbbjecbeipaaDoor.P6 Go.Proofs.YtjgfbbjecbeipaaDoor.P8 Go.Proofs.YtjgfbbjecbeipaaDoor.B5 Go.Proofs.YtjgfbbjecbeipaaDoor.B6 Go.Proofs.YtjgfbbjecbeipaaDoor.B8
set_option maxRecDepth 20000 in
set_option maxHeartbeats 2000000 in
theorem walk (l : Int) (hlr : -9223372036854775808 ≤ l ∧ l ≤ 9223372036854775807) (x : Va) (hl : x.w.length ≤ 9223372036854775807) (w : World) (L : Pow w) :
    Calls Tryd.prog 3 #[.int .i64 l, valV x] w (Ans (.bool true) w) := by
  have HZ := Lib.hid (fun w' => szValue_laws x 1048576 w' (by decide) (by decide) hl)
  have HT := Lib.hid (fun w' => toValue_laws x w')
  by_cases hbig : (x.w.length : Int) ≤ 1048576
  · rw [if_pos hbig] at HZ
    have hz0 : ¬ (1048576 - (x.w.length : Int)) < 0 := by omega
    have HS := Lib.hid (fun w' => Fits_spec l x (by omega) w')
    have HI := Lib.hid (fun w' (hb : Below w.heap.size w w') => Fits_impl l x hlr (by omega) w' (L.on hb))
    generalize fits l x = A at HS HI
    clear L hlr
    generalize (1048576 - (x.w.length : Int)) = z at HZ hz0
    obtain ⟨k, n, r, g, b, c, t⟩ := x
    unfold valV at HZ HT HS HI ⊢
    dsimp only at HZ HT HS HI ⊢
    clear hbig hl
    go_enter Tryd.func3, Tryd.ntmps3
    have hn := held7_new (.int .i64 k) (.int .i64 n) (.int .i64 r) (.int .i64 g) (.int .i64 b) (.int .i64 c) (.string ⟨t.toArray⟩) 23 (Below.refl w.heap.size w)
    obtain ⟨c0, c1, c2, c3, c4, c5, c6, hlt, hB⟩ := hn
    go_wp2_with fail
    refine (HZ.out _).mono ?_
    rintro e w1 ⟨rfl, g1⟩
    obtain ⟨d0, d1, d2, d3, d4, d5, d6, hlt1, hB1⟩ := held7_call g1 c0 c1 c2 c3 c4 c5 c6 hlt hB
    clear c0 c1 c2 c3 c4 c5 c6 hlt hB g1
    go_wp2_with fail
    refine (HT.out _).mono ?_
    rintro e w2 ⟨rfl, g2⟩
    obtain ⟨c0, c1, c2, c3, c4, c5, c6, hlt, hB⟩ := held7_call g2 d0 d1 d2 d3 d4 d5 d6 hlt1 hB1
    clear d0 d1 d2 d3 d4 d5 d6 hlt1 hB1 g2
    go_wp2_with fail
    refine (HS.out _).mono ?_
    rintro e w3 ⟨rfl, g3⟩
    obtain ⟨d0, d1, d2, d3, d4, d5, d6, hlt1, hB1⟩ := held7_call g3 c0 c1 c2 c3 c4 c5 c6 hlt hB
    clear c0 c1 c2 c3 c4 c5 c6 hlt hB g3
    go_wp2_with fail
    refine (HT.out _).mono ?_
    rintro e w4 ⟨rfl, g4⟩
    have hB4 := hB1.trans (g4.mono hB1.size)
    clear d0 d1 d2 d3 d4 d5 d6 hlt1 hB1 g4
    go_wp2_with fail
    refine (HI.out _ hB4).mono ?_
    rintro e w5 ⟨rfl, g5⟩
    have hB5 := hB4.trans (g5.mono hB4.size)
    cases A
    all_goals
      go_wp2_with fail
      go_ret
      exact ⟨rfl, hB5⟩
  · rw [if_neg hbig] at HZ
    obtain ⟨k, n, r, g, b, c, t⟩ := x
    unfold valV at HZ ⊢
    dsimp only at HZ ⊢
    clear hbig hl HT
    go_enter Tryd.func3, Tryd.ntmps3
    go_wp2_with (go_at_call 4; refine (HZ.out _).mono ?_; rintro e w1 ⟨rfl, g1⟩)
    go_ret
    exact ⟨rfl, Below.box g1⟩

set_option maxRecDepth 100000 in
theorem lifted (os : Os) (started : os.Started) (H : Type) (enc : TypeId × Value → H) :
    ReturnsInHanded {} Tryd.checked os 3 .any (fun w args => (Rows.fnExactFitsSpec.pre enc Tryd.prog Tryd.f3 Rows.fnExactFitsRow.domain false w args ∧ laidMetH Tryd.prog Rows.fnExactFitsRow.laid w) ∧ sizedMet enc Tryd.prog Tryd.f3 (OpenSpec.ofChange Rows.fnExactFitsSpec) false w args)
      (Rows.fnExactFitsSpec.post enc Tryd.prog Tryd.f3 false true false false) := by
  refine returnsInHanded_of_calls (C := Tryd.checked) own started (by kernel_rfl)
    (ChangeSpec.witness_shaped (enc := enc) (C := Tryd.checked) (os := os) (X := fun w _ => laidMetH Tryd.prog Rows.fnExactFitsRow.laid w) false (World.laidAll Tryd.prog os Rows.fnExactFitsRow.laid) #[.int .i64 0, .agg #[.int .i64 0, .int .i64 0, .int .i64 0, .int .i64 0, .int .i64 0, .int .i64 0, .string ⟨#[]⟩]] 8 (World.laidAll_os _ _ _)
      (World.shaped_of_ZipB (by kernel_rfl) (by kernel_rfl)) (by kernel_rfl) (by kernel_rfl) (by kernel_rfl)
      (by rw [MakeChecks.laidMetH_plain _ _ _ (by kernel_rfl)]; exact laidMet_laidAll _ (by kernel_rfl) (by kernel_rfl))) ?_
  intro w0 tape i _ hsh0 _ hok hpre _
  obtain ⟨_, _, _, fn', hfn', _, _, _, _, hval00⟩ := hok
  obtain rfl : fn' = Tryd.f3 := Option.some.inj (hfn'.symm.trans Tryd.func3)
  obtain ⟨⟨⟨ds, gs, before, hw, _⟩, hx⟩, _⟩ := hpre
  have hW0 := DataW.Whole.of_heap (w' := w0.forCall tape i) (by rfl) hw
  have hL0 : laidMetH Tryd.prog Rows.fnExactFitsRow.laid (w0.forCall tape i) := hx.of_heap (by rfl)
  suffices hgo : ∀ (W : World) (base : Nat) (args : Array Value), (∀ (j : Nat) t v, Tryd.f3.params[j]? = some t → args[j]? = some v → Value.okWide Tryd.prog W .any base t v) →
      DataW.Whole enc Tryd.prog Tryd.f3.params.toList Rows.fnExactFitsSpec.vars false W args.toList ds gs before → laidMetH Tryd.prog Rows.fnExactFitsRow.laid W → W.ShapedOpen Tryd.prog →
      Calls Tryd.prog 3 args W fun e W' => ∃ v, e = .returned v ∧ Rows.fnExactFitsSpec.post enc Tryd.prog Tryd.f3 false true false false W args v W' by
    refine (hgo _ _ _ hval00 hW0 hL0 hsh0).mono fun e W' ⟨v, he, hp⟩ => ?_
    subst he
    exact ChangeSpec.post_blind hp
  clear hsh0 hval00 hW0 hL0 hx hw hfn'
  intro W base args hval0 hW hL hsh
  have hval : ∀ (j : Nat) t v, Tryd.f3.params[j]? = some t → args[j]? = some v → Value.okWide Tryd.prog W .any base t v := hval0
  have hW' := hW
  obtain ⟨p, q, hA0, hV, rfl, hfz, hnd⟩ := hW
  have hA : DataW.TrodAll enc Tryd.prog W 0 (fun _ => true) true Tryd.f3.params.toList args.toList ds p := hA0
  rw [Tryd.params3] at hA hval
  obtain ⟨v0, vs0, d0, ds0, p0, q0, hargs, rfl, rfl, h0, r0⟩ := trodAll_cons hA
  obtain ⟨v1, vs1, d1, ds1, p1, q1, rfl, rfl, rfl, h1, r1⟩ := trodAll_cons r0
  obtain ⟨rfl, rfl, rfl⟩ := trodAll_nil r1
  obtain rfl : args = #[v0, v1] := by cases args; simp_all
  obtain ⟨rfl, rfl⟩ := trodVars_none hV
  have k0 := h0
  have lt0 : ∀ x ∈ p0, x.block < W.heap.size := by obtain ⟨m, hm⟩ := k0; exact DataW.trod_lt m _ _ _ hm
  have k1 := h1
  have lt1 : ∀ x ∈ p1, x.block < W.heap.size := by obtain ⟨m, hm⟩ := k1; exact DataW.trod_lt m _ _ _ hm
  obtain ⟨l, rfl, rfl, rfl, _⟩ := open_int Tryd.underlying2 (hval 0 2 v0 rfl rfl) h0
  have hlr : -9223372036854775808 ≤ l ∧ l ≤ 9223372036854775807 := by rename_i hr; simpa [Lit.wf, IntKind.min, IntKind.max, IntKind.signed, IntKind.bits] using hr
  obtain ⟨x0, rfl, hl0⟩ := open_value (hval 1 23 v1 rfl rfl) h1
  refine (walk l hlr x0 hl0 W (laid_exactFits hL)).mono fun e W' ⟨he, bel⟩ => ?_
  subst he
  exact ⟨_, rfl, _, _, _, [], _, [], hW', trodAll_mk1 (shut_bool Tryd.underlying4 _), (trodAll_cons_mk (Below.trod laidOut (by kernel_rfl) (of_decide_eq_true (by kernel_rfl)) k0 bel lt0) (trodAll_cons_mk (Below.trod laidOut (by kernel_rfl) (of_decide_eq_true (by kernel_rfl)) k1 bel lt1) trodAll_mk0)), rfl, bel.frame _, fun h => by cases h⟩

theorem over : Rows.fnExactFitsRow.holds Tryd.pinned (OpenSpec.ofChange Rows.fnExactFitsSpec) :=
  OpenClaim.holds_of_wide 3 Tryd.f3 rfl rfl rfl rfl rfl rfl rfl ⟨rfl, rfl, rfl, rfl, rfl⟩ rfl rfl rfl rfl rfl (by kernel_rfl) Tryd.func3 (by kernel_rfl)
    (of_decide_eq_true (by kernel_rfl)) (by unfold Func.isWrapper; first | (rw [if_pos (by decide +kernel)]; kernel_rfl) | (rw [if_neg (by decide +kernel)]; exact ⟨rfl, rfl⟩))
    (fun os started H enc _ => lifted os started H enc)

theorem proved : Rows.FnExactFitsCardSaid :=
  Claim7.holds_tied_plain_at .later [] [.data, .data, .data, .sentinel, .sentinel] true (true, "b83c46d63a71cd325b07959f58fd3cbdfeff17293b726efba84e76fec6045104") true over (fun _ h => by cases h) (by kernel_rfl) (fun _ h => by cases h) fnExactFits_row_tie rfl ⟨rfl, rfl⟩ (by kernel_rfl) rfl
    (fun f fn hf hfn => by
      obtain rfl : f = 3 := Option.some.inj ((show Tryd.prog.funcNamed "loop.example/g00521/laws.FnExactFits" = some 3 by kernel_rfl).symm.trans hf) |>.symm
      obtain rfl : fn = Tryd.f3 := (Option.some.inj (Tryd.func3.symm.trans hfn)).symm
      exact ⟨by kernel_rfl, fun j t ht => by
        have hm : t ∈ Tryd.f3.params.toList := by simpa using Array.mem_of_getElem? ht
        have hall : (Tryd.f3.params.toList.all fun u => !Tryd.prog.wantsStandIn u) = true := by kernel_rfl
        exact (show Tryd.prog.wantsStandIn t = false by simpa using List.all_eq_true.1 hall t hm)⟩)
    (by kernel_rfl)
#print axioms proved
end Go.Proofs.YtjgfbbjecbeipaaDoor.fnExactFits
