/- Proved: for every list of Tokens, FnExactReadValue answers true: the program's ReadValue answers as the reference's, and its argument stays. No condition. -/
import Derived.Test.YtnnpnimlnaflnaaDoorBase6n
import Derived.Test.YtnnpnimlnaflnaaDoorBase6f
import Derived.Test.YtnnpnimlnaflnaaDoorOpen6
import Derived.Test.YtnnpnimlnaflnaaDoorDoor6
import Derived.Test.YtnnpnimlnaflnaaDoorRows
import Derived.Test.YtnnpnimlnaflnaaDoorCards
import Derived.Test.YtnnpnimlnaflnaaDoorTie
import Derived.WalkKit
import Derived.ProofKit
import Derived.OpenShut
import Derived.ShutString
import Derived.ChangeOld
import Derived.Below
import Derived.OpenVars
import Derived.ChangeVars
import Derived.Handed
import Derived.Lay
import Derived.LaidLaws
import Derived.MakeChecks
import Derived.SevenTiedAt
import Derived.Stop.Joined
namespace Go.Proofs.YtnnpnimlnaflnaaDoor.fnExactReadValue
open Go.ChangeShapes Go.WideShapes Go.ChangeAt Go.RowKit
open Go.ChangeMaps (open_string shut_string)
set_option linter.unusedVariables false

theorem own : ownKnob Tryd.prog.godebug = none := by kernel_rfl
theorem laidOut : laidOutB Tryd.prog = true := by kernel_rfl

open Go.Proofs.YtnnpnimlnaflnaaDoor.P1 Go.Proofs.YtnnpnimlnaflnaaDoor.B1 Go.Proofs.YtnnpnimlnaflnaaDoor.B2 Go.Proofs.YtnnpnimlnaflnaaDoor.T1 Go.Proofs.YtnnpnimlnaflnaaDoor.BT Go.Proofs.YtnnpnimlnaflnaaDoor.P5 Go.Proofs.YtnnpnimlnaflnaaDoor.P6 Go.Proofs.YtnnpnimlnaflnaaDoor.B5 Go.Proofs.YtnnpnimlnaflnaaDoor.B6 Go.Proofs.YtnnpnimlnaflnaaDoor.S7 Go.Proofs.YtnnpnimlnaflnaaDoor.V6 Go.Proofs.YtnnpnimlnaflnaaDoor.O6 Go.Proofs.YtnnpnimlnaflnaaDoor.D1
theorem szS_none (a : Option Addr) (cap : Nat) (w : World) : Calls Tryd.prog 13 #[.slice a 0 cap, .int .i64 1048576] w (Small [] w) := by
  go_enter Tryd.func13, Tryd.ntmps13
  go_wp2
  go_loop [1, 5] (fun s1 s5 => s1 = .int .i64 1048576 ∧ s5 = .int .i64 0) (fun _ _ => 0)
  case atStart => exact ⟨rfl, rfl⟩
  case round =>
    obtain ⟨rfl, rfl⟩ := hrel
    go_wp2
    go_ret
    exact ⟨1048576, rfl, by decide, by decide, fun _ => by simp [sumT], Below.refl _ _⟩

theorem toTokS_none (a : Option Addr) (cap : Nat) (w : World) : Calls Tryd.prog 15 #[.slice a 0 cap] w (Copies [] w) := by
  have hmk : (Instr.makeSlice 34 (.int .i64 0) (.int .i64 0)).run Tryd.prog w = .ok (.slice (some ⟨w.heap.size, 0, none⟩) 0 0) (w.alloc (.cells #[] 60)) := by
    have h := make_toks 0 (by decide) w
    rw [show madeCells #[.int .i64 0, .string ⟨#[]⟩, .int .i64 0] (0 * 3) = #[] by simp [madeCells]] at h
    exact h
  have hB0 : Below w.heap.size w (w.alloc (.cells #[] 60)) := (Below.refl _ _).alloc (Nat.le_refl _) _
  have hlt : w.heap.size < (w.alloc (.cells #[] 60)).heap.size := by simp
  go_enter Tryd.func15, Tryd.ntmps15
  go_wp2
  go_loopg [4] 0 (fun kx s4 wr => s4 = .int .i64 0 ∧ wr = w.alloc (.cells #[] 60))
  case atStart => exact ⟨rfl, rfl⟩
  case round =>
    obtain ⟨rfl, rfl⟩ := hrel
    go_wp2
    go_ret
    exact ⟨_, rfl, Or.inr ⟨w.heap.size, 0, rfl, ⟨fun i x h => by simp at h, by simp, by decide, hlt⟩⟩, fun g hg => by simp [Value.ownBlock] at hg; omega, hB0⟩

theorem szS_arg (ts : List P5.Tok) (v : Value) (w : World) (h : ArgVal w v ts) : Calls Tryd.prog 13 #[v, .int .i64 1048576] w (Small ts w) := by
  rcases h with ⟨rfl, a, cap, rfl⟩ | ⟨b, off, cap, rfl, h1, h2, h3⟩
  · exact szS_none a cap w
  · exact szS_rows ts _ b off cap w rfl h3 h1 h2

theorem toTokS_arg (ts : List P5.Tok) (v : Value) (w : World) (h : ArgVal w v ts) (hs : ts.length ≤ 2000000) : Calls Tryd.prog 15 #[v] w (Copies ts w) := by
  rcases h with ⟨rfl, a, cap, rfl⟩ | ⟨b, off, cap, rfl, h1, h2, h3⟩
  · exact toTokS_none a cap w
  · exact toTokS_rows ts _ b off cap w rfl h3 h1 h2 hs

theorem arg_on {w w' : World} {v : Value} {ts : List P5.Tok} (h : ArgVal w v ts) (hb : Below w.heap.size w w') : ArgVal w' v ts := by
  rcases h with h | ⟨b, off, cap, rfl, h1, h2, h3⟩
  · exact Or.inl h
  · exact Or.inr ⟨b, off, cap, rfl, h1, h2, h3.on hb⟩

theorem sum_mem {ts : List P5.Tok} {x : P5.Tok} (h : x ∈ ts) : x.t.length ≤ sumT ts := by
  induction ts with
  | nil => cases h
  | cons y r ih =>
    have e : sumT (y :: r) = y.t.length + sumT r := by simp [sumT]
    rcases List.mem_cons.1 h with rfl | h
    · omega
    · have := ih h; omega

theorem arg_fit {w : World} {v : Value} {ts : List P5.Tok} (h : ArgVal w v ts) (hs : ts.length + sumT ts ≤ 1048576) : ∀ x ∈ ts, TokFit x := fun x hx => by
  rcases h with ⟨rfl, _⟩ | ⟨b, off, cap, rfl, h1, h2, h3⟩
  · cases hx
  · have hf := h3.fit x hx
    have := sum_mem hx
    exact ⟨hf.1, hf.2.1, by omega⟩

theorem arg_form {w : World} {v : Value} {ts : List P5.Tok} (h : ArgVal w v ts) : ∃ a n cap, v = .slice a n cap := by
  rcases h with ⟨_, a, cap, rfl⟩ | ⟨b, off, cap, rfl, _⟩
  · exact ⟨_, _, _, rfl⟩
  · exact ⟨_, _, _, rfl⟩
set_option maxRecDepth 20000 in
set_option maxHeartbeats 4000000 in
theorem walk (ts : List P5.Tok) (v : Value) (w : World) (h : ArgVal w v ts) (L : B5.Pow w) :
    Calls Tryd.prog 5 #[v] w (Ans (.bool true) w) := by
  have HA := Lib.hid h
  have HL := Lib.hid L
  have HZ := Lib.hid (fun w' (hb : Below w.heap.size w w') => szS_arg ts v w' (arg_on h hb))
  obtain ⟨a, nn, cap, rfl⟩ := arg_form h
  clear h L
  go_enter Tryd.func5, Tryd.ntmps5
  go_wp2_with fail
  refine (HZ.out _ (Below.refl _ _)).mono ?_
  rintro e w1 ⟨r, rfl, hr0, hr1, hrs, g1⟩
  by_cases hneg : r < 0
  · go_wp2_with fail
    go_ret
    exact ⟨rfl, g1⟩
  · have hsm := hrs (by omega)
    have hlen : ts.length ≤ 1500000 := by omega
    have HF := Lib.hid (arg_fit HA.out hsm)
    have HT := Lib.hid (fun w' (hb : Below w.heap.size w w') => toTokS_arg ts _ w' (arg_on HA.out hb) (by omega))
    have HS := Lib.hid (fun v' w' (hv : TokVal w' v' ts) => ReadS_val ts v' w' hv HF.out hlen)
    have HI := Lib.hid (fun v' w' (hb : Below w.heap.size w w') (hv : TokVal w' v' ts) => ReadI_val ts v' w' (HL.out.on hb) hv HF.out hlen)
    have HE := Lib.hid (fun v' v2 w' (hv : TokVal w' v' ts) (hv2 : TokVal w' v2 ts) => eqS_same ts v' v2 w' hv hv2 (by omega))
    unfold V6.Reads at HS HI
    generalize P6.valOf ts = y at HS HI
    generalize isVal ts = I at HS HI
    have HQ := Lib.hid (fun w' => eqValue_self y w')
    obtain ⟨k, n, r', g, b, c, t⟩ := y
    unfold valV at HS HI HQ
    dsimp only at HS HI HQ
    clear hrs hsm hlen hr0 hr1 HZ
    go_wp2_with fail
    refine (HT.out _ g1).mono ?_
    rintro e w2 ⟨v1, rfl, hv1, _, g2⟩
    have hB2 := g1.trans (g2.mono g1.size)
    have hv1' := hv1
    obtain ⟨a1, c1', rfl, _⟩ := hv1'.form
    go_wp2_with fail
    refine (HS.out _ _ hv1).mono ?_
    rintro e w3 ⟨rfl, g3⟩
    have hB3 := hB2.trans (g3.mono hB2.size)
    have hb3 : LBlk (w3.alloc (.cells #[.int .i64 k, .int .i64 n, .int .i64 r', .int .i64 g, .int .i64 b, .int .i64 c, .string ⟨t.toArray⟩] 26)) w3.heap.size [.int .i64 k, .int .i64 n, .int .i64 r', .int .i64 g, .int .i64 b, .int .i64 c, .string ⟨t.toArray⟩] := LBlk.new w3 _ _
    have hB3a := hB3.alloc hB3.size (.cells #[.int .i64 k, .int .i64 n, .int .i64 r', .int .i64 g, .int .i64 b, .int .i64 c, .string ⟨t.toArray⟩] 26)
    clear hv1
    go_wp2_with fail
    generalize w3.alloc (.cells #[.int .i64 k, .int .i64 n, .int .i64 r', .int .i64 g, .int .i64 b, .int .i64 c, .string ⟨t.toArray⟩] 26) = W3 at *
    generalize w3.heap.size = bq at *
    refine (HT.out _ hB3a).mono ?_
    rintro e w4 ⟨v2, rfl, hv2, _, g4⟩
    have hB4 := hB3a.trans (g4.mono hB3a.size)
    have hb4 := hb3.below g4
    have HV2 := Lib.hid hv2
    obtain ⟨a2, c2', rfl, _⟩ := hv2.form
    generalize ts.length = m at *
    clear hv2
    go_wp2_with fail
    refine (HI.out _ _ hB4 HV2.out).mono ?_
    rintro e w5 ⟨rfl, g5⟩
    have hB5 := hB4.trans (g5.mono hB4.size)
    have hb5 := (hb4.below g5).alloc (.cells #[.int .i64 k, .int .i64 n, .int .i64 r', .int .i64 g, .int .i64 b, .int .i64 c, .string ⟨t.toArray⟩] 26)
    have hz5 : LBlk (w5.alloc (.cells #[.int .i64 k, .int .i64 n, .int .i64 r', .int .i64 g, .int .i64 b, .int .i64 c, .string ⟨t.toArray⟩] 26)) w5.heap.size [.int .i64 k, .int .i64 n, .int .i64 r', .int .i64 g, .int .i64 b, .int .i64 c, .string ⟨t.toArray⟩] := LBlk.new w5 _ _
    have hB5a := hB5.alloc hB5.size (.cells #[.int .i64 k, .int .i64 n, .int .i64 r', .int .i64 g, .int .i64 b, .int .i64 c, .string ⟨t.toArray⟩] 26)
    have HV5 := Lib.hid ((HV2.out.on g5).on (show Below w5.heap.size w5 (w5.alloc (.cells #[.int .i64 k, .int .i64 n, .int .i64 r', .int .i64 g, .int .i64 b, .int .i64 c, .string ⟨t.toArray⟩] 26)) from (Below.refl _ _).alloc (Nat.le_refl _) _))
    obtain ⟨d0, d1, d2, d3, d4, d5, d6, _⟩ := seven_cells hb5
    go_wp2_with fail
    refine (HQ.out _).mono ?_
    rintro e w6 ⟨rfl, g6⟩
    generalize w5.alloc (.cells #[.int .i64 k, .int .i64 n, .int .i64 r', .int .i64 g, .int .i64 b, .int .i64 c, .string ⟨t.toArray⟩] 26) = W5 at *
    have hB6 := hB5a.trans (g6.mono hB5a.size)
    have HV6 := Lib.hid (HV5.out.on g6)
    clear d0 d1 d2 d3 d4 d5 d6 hb5 hz5 hb4 hb3
    cases I
    all_goals
      go_wp2_with fail
      refine (HT.out _ hB6).mono ?_
      rintro e w7 ⟨v3, rfl, hv3, _, g7⟩
      have hB7 := hB6.trans (g7.mono hB6.size)
      go_wp2_with fail
      refine (HE.out _ _ _ (HV6.out.on g7) hv3).mono ?_
      rintro e w8 ⟨rfl, g8⟩
      go_wp2_with fail
      go_ret
      exact ⟨rfl, hB7.trans (g8.mono hB7.size)⟩

set_option maxRecDepth 100000 in
theorem lifted (os : Os) (started : os.Started) (H : Type) (enc : TypeId × Value → H) :
    ReturnsInHanded {} Tryd.checked os 5 .any (fun w args => (Rows.fnExactReadValueSpec.pre enc Tryd.prog Tryd.f5 Rows.fnExactReadValueRow.domain false w args ∧ laidMetH Tryd.prog Rows.fnExactReadValueRow.laid w) ∧ sizedMet enc Tryd.prog Tryd.f5 (OpenSpec.ofChange Rows.fnExactReadValueSpec) false w args)
      (Rows.fnExactReadValueSpec.post enc Tryd.prog Tryd.f5 false true false false) := by
  refine returnsInHanded_of_calls (C := Tryd.checked) own started (by kernel_rfl)
    (ChangeSpec.witness_shaped (enc := enc) (C := Tryd.checked) (os := os) (X := fun w _ => laidMetH Tryd.prog Rows.fnExactReadValueRow.laid w) false (World.laidAll Tryd.prog os Rows.fnExactReadValueRow.laid) #[.slice none 0 0] 8 (World.laidAll_os _ _ _)
      (World.shaped_of_ZipB (by kernel_rfl) (by kernel_rfl)) (by kernel_rfl) (by kernel_rfl) (by kernel_rfl)
      (by rw [MakeChecks.laidMetH_plain _ _ _ (by kernel_rfl)]; exact laidMet_laidAll _ (by kernel_rfl) (by kernel_rfl))) ?_
  intro w0 tape i _ hsh0 _ hok hpre _
  obtain ⟨_, _, _, fn', hfn', _, _, _, _, hval00⟩ := hok
  obtain rfl : fn' = Tryd.f5 := Option.some.inj (hfn'.symm.trans Tryd.func5)
  obtain ⟨⟨⟨ds, gs, before, hw, _⟩, hx⟩, _⟩ := hpre
  have hW0 := DataW.Whole.of_heap (w' := w0.forCall tape i) (by rfl) hw
  have hL0 : laidMetH Tryd.prog Rows.fnExactReadValueRow.laid (w0.forCall tape i) := hx.of_heap (by rfl)
  suffices hgo : ∀ (W : World) (base : Nat) (args : Array Value), (∀ (j : Nat) t v, Tryd.f5.params[j]? = some t → args[j]? = some v → Value.okWide Tryd.prog W .any base t v) →
      DataW.Whole enc Tryd.prog Tryd.f5.params.toList Rows.fnExactReadValueSpec.vars false W args.toList ds gs before → laidMetH Tryd.prog Rows.fnExactReadValueRow.laid W → W.ShapedOpen Tryd.prog →
      Calls Tryd.prog 5 args W fun e W' => ∃ v, e = .returned v ∧ Rows.fnExactReadValueSpec.post enc Tryd.prog Tryd.f5 false true false false W args v W' by
    refine (hgo _ _ _ hval00 hW0 hL0 hsh0).mono fun e W' ⟨v, he, hp⟩ => ?_
    subst he
    exact ChangeSpec.post_blind hp
  clear hsh0 hval00 hW0 hL0 hx hw hfn'
  intro W base args hval0 hW hL hsh
  have hval : ∀ (j : Nat) t v, Tryd.f5.params[j]? = some t → args[j]? = some v → Value.okWide Tryd.prog W .any base t v := hval0
  have hW' := hW
  obtain ⟨p, q, hA0, hV, rfl, hfz, hnd⟩ := hW
  have hA : DataW.TrodAll enc Tryd.prog W 0 (fun _ => true) true Tryd.f5.params.toList args.toList ds p := hA0
  rw [Tryd.params5] at hA hval
  obtain ⟨v0, vs0, d0, ds0, p0, q0, hargs, rfl, rfl, h0, r0⟩ := trodAll_cons hA
  obtain ⟨rfl, rfl, rfl⟩ := trodAll_nil r0
  obtain rfl : args = #[v0] := by cases args; simp_all
  obtain ⟨rfl, rfl⟩ := trodVars_none hV
  have k0 := h0
  have lt0 : ∀ x ∈ p0, x.block < W.heap.size := by obtain ⟨m, hm⟩ := k0; exact DataW.trod_lt m _ _ _ hm
  obtain ⟨ts0, ha0⟩ := open_tokens (hval 0 30 v0 rfl rfl) h0
  refine (walk ts0 _ W ha0 (laid_readValue hL)).mono fun e W' ⟨he, bel⟩ => ?_
  subst he
  exact ⟨_, rfl, _, _, _, [], _, [], hW', trodAll_mk1 (shut_bool Tryd.underlying4 _), (trodAll_cons_mk (Below.trod laidOut (by kernel_rfl) (of_decide_eq_true (by kernel_rfl)) k0 bel lt0) trodAll_mk0), rfl, bel.frame _, fun h => by cases h⟩

theorem over : Rows.fnExactReadValueRow.holds Tryd.pinned (OpenSpec.ofChange Rows.fnExactReadValueSpec) :=
  OpenClaim.holds_of_wide 5 Tryd.f5 rfl rfl rfl rfl rfl rfl rfl ⟨rfl, rfl, rfl, rfl, rfl⟩ rfl rfl rfl rfl rfl (by kernel_rfl) Tryd.func5 (by kernel_rfl)
    (of_decide_eq_true (by kernel_rfl)) (by unfold Func.isWrapper; first | (rw [if_pos (by decide +kernel)]; kernel_rfl) | (rw [if_neg (by decide +kernel)]; exact ⟨rfl, rfl⟩))
    (fun os started H enc _ => lifted os started H enc)

theorem proved : Rows.FnExactReadValueCardSaid :=
  Claim7.holds_tied_plain_at .later [] [.data, .data, .data, .sentinel, .sentinel] true (true, "7f138b23c4387add92440645791c162acb9eedf55982c2a25d788812466cc2cb") true over (fun _ h => by cases h) (by kernel_rfl) (fun _ h => by cases h) fnExactReadValue_row_tie rfl ⟨rfl, rfl⟩ (by kernel_rfl) rfl
    (fun f fn hf hfn => by
      obtain rfl : f = 5 := Option.some.inj ((show Tryd.prog.funcNamed "loop.example/g00521/laws.FnExactReadValue" = some 5 by kernel_rfl).symm.trans hf) |>.symm
      obtain rfl : fn = Tryd.f5 := (Option.some.inj (Tryd.func5.symm.trans hfn)).symm
      exact ⟨by kernel_rfl, fun j t ht => by
        have hm : t ∈ Tryd.f5.params.toList := by simpa using Array.mem_of_getElem? ht
        have hall : (Tryd.f5.params.toList.all fun u => !Tryd.prog.wantsStandIn u) = true := by kernel_rfl
        exact (show Tryd.prog.wantsStandIn t = false by simpa using List.all_eq_true.1 hall t hm)⟩)
    (by kernel_rfl)
#print axioms proved
end Go.Proofs.YtnnpnimlnaflnaaDoor.fnExactReadValue
