/- Proved: for every two Values, FnExactApart answers true: the program's Apart answers as the reference's. No condition. -/
import Derived.Test.YtkeofllcccgbbaaDoorBase6n
import Derived.Test.YtkeofllcccgbbaaDoorBase7
import Derived.Test.YtkeofllcccgbbaaDoorImp7c
import Derived.Test.YtkeofllcccgbbaaDoorDoor7
import Derived.Deep.RegionHeld3
import Derived.Test.YtkeofllcccgbbaaDoorRows
import Derived.Test.YtkeofllcccgbbaaDoorCards
import Derived.Test.YtkeofllcccgbbaaDoorTie
import Derived.WalkKit
import Derived.ProofKit
import Derived.OpenShut
import Derived.ShutString
import Derived.ChangeOld
import Derived.Below
import Derived.OpenVars
import Derived.ChangeVars
import Derived.Handed
import Derived.Lay
import Derived.LaidLaws
import Derived.MakeChecks
import Derived.SevenTiedAt
import Derived.Stop.Joined
namespace Go.Proofs.YtkeofllcccgbbaaDoor.fnExactApart
open Go.ChangeShapes Go.WideShapes Go.ChangeAt Go.RowKit
open Go.ChangeMaps (open_string shut_string)
set_option linter.unusedVariables false

theorem own : ownKnob Tryd.prog.godebug = none := by kernel_rfl
theorem laidOut : laidOutB Tryd.prog = true := by kernel_rfl

open Go.Proofs.YtkeofllcccgbbaaDoor.P1 Go.Proofs.YtkeofllcccgbbaaDoor.B1 Go.Proofs.YtkeofllcccgbbaaDoor.B2 Go.Proofs.YtkeofllcccgbbaaDoor.T1 Go.Proofs.YtkeofllcccgbbaaDoor.BT Go.Proofs.YtkeofllcccgbbaaDoor.P5 Go.Proofs.YtkeofllcccgbbaaDoor.P6 Go.Proofs.YtkeofllcccgbbaaDoor.B5 Go.Proofs.YtkeofllcccgbbaaDoor.B6 Go.Proofs.YtkeofllcccgbbaaDoor.S7 Go.Proofs.YtkeofllcccgbbaaDoor.V6 Go.Proofs.YtkeofllcccgbbaaDoor.V7 Go.Proofs.YtkeofllcccgbbaaDoor.B7
theorem toValue_g (k n r g b c : Int) (t : List UInt8) (w : World) : Calls Tryd.prog 7 #[.agg #[.int .i64 k, .int .i64 n, .int .i64 r, .int .i64 g, .int .i64 b, .int .i64 c, .string ⟨t.toArray⟩]] w (Ans (.agg #[.int .i64 k, .int .i64 n, .int .i64 r, .int .i64 g, .int .i64 b, .int .i64 c, .string ⟨t.toArray⟩]) w) := toValue_laws ⟨k, n, r, g, b, c, t⟩ w

set_option maxRecDepth 20000 in
set_option maxHeartbeats 4000000 in
theorem walk (x y : Va) (hl : x.w.length ≤ 9223372036854775807) (hm : y.w.length ≤ 9223372036854775807) (w : World) (L : Pow w) :
    Calls Tryd.prog 4 #[valV x, valV y] w (Ans (.bool true) w) := by
  have HZ := Lib.hid (fun w' => szValue_laws x 1048576 w' (by decide) (by decide) hl)
  have HT := Lib.hid toValue_g
  obtain ⟨c0, c1, c2, c3, c4, c5, c6, d0, d1, d2, d3, d4, d5, d6, hlt, hld, hB⟩ := held77_new w (.int .i64 x.k) (.int .i64 x.n) (.int .i64 x.r) (.int .i64 x.g) (.int .i64 x.b) (.int .i64 x.c) (.string ⟨x.w.toArray⟩) (.int .i64 y.k) (.int .i64 y.n) (.int .i64 y.r) (.int .i64 y.g) (.int .i64 y.b) (.int .i64 y.c) (.string ⟨y.w.toArray⟩) 23
  by_cases hbig : (x.w.length : Int) ≤ 1048576
  · rw [if_pos hbig] at HZ
    have hz0 : ¬ (1048576 - (x.w.length : Int)) < 0 := by omega
    obtain ⟨z, ez⟩ : ∃ z, 1048576 - (x.w.length : Int) = z := ⟨_, rfl⟩
    rw [ez] at HZ hz0
    have HY := Lib.hid (fun w' => szValue_laws y z w' (by omega) (by omega) hm)
    by_cases hbig2 : (y.w.length : Int) ≤ z
    · rw [if_pos hbig2] at HY
      have hy0 : ¬ (z - (y.w.length : Int)) < 0 := by omega
      have HS := Lib.hid (fun w' => Apart_spec x y (by omega) (by omega) w')
      have HI := Lib.hid (fun w' (hb : Below w.heap.size w w') => Apart_impl x y (by omega) (by omega) w' (L.on hb))
      generalize P7.apartV x y = A at HS HI
      generalize z - (y.w.length : Int) = z2 at HY hy0
      obtain ⟨k, n, r, g, b, c, t⟩ := x
      obtain ⟨k', n', r', g', b', c', t'⟩ := y
      unfold valV at HZ HY HS HI ⊢
      dsimp only at HZ HY HS HI c0 c1 c2 c3 c4 c5 c6 d0 d1 d2 d3 d4 d5 d6 hlt hld hB ⊢
      clear hbig hbig2 hl hm L ez
      go_enter Tryd.func4, Tryd.ntmps4
      go_wp2_with fail
      refine (HZ.out _).mono ?_
      rintro e w1 ⟨rfl, g1⟩
      replace hB := held77_call g1 c0 c1 c2 c3 c4 c5 c6 d0 d1 d2 d3 d4 d5 d6 hlt hld hB
      clear c0 c1 c2 c3 c4 c5 c6 d0 d1 d2 d3 d4 d5 d6 hlt hld g1
      obtain ⟨c0, c1, c2, c3, c4, c5, c6, d0, d1, d2, d3, d4, d5, d6, hlt, hld, hB⟩ := hB
      go_wp2_with fail
      refine (HY.out _).mono ?_
      rintro e w2 ⟨rfl, g2⟩
      replace hB := held77_call g2 c0 c1 c2 c3 c4 c5 c6 d0 d1 d2 d3 d4 d5 d6 hlt hld hB
      clear c0 c1 c2 c3 c4 c5 c6 d0 d1 d2 d3 d4 d5 d6 hlt hld g2
      obtain ⟨c0, c1, c2, c3, c4, c5, c6, d0, d1, d2, d3, d4, d5, d6, hlt, hld, hB⟩ := hB
      go_wp2_with fail
      generalize hbz : w.heap.size = bx at c0 c1 c2 c3 c4 c5 c6 d0 d1 d2 d3 d4 d5 d6 hlt hld ⊢
      clear hbz
      go_region_held3 (fun w' => w'.cell? ⟨bx, 0, none⟩ = some (.int .i64 k) ∧ w'.cell? ⟨bx, 1, none⟩ = some (.int .i64 n) ∧ w'.cell? ⟨bx, 2, none⟩ = some (.int .i64 r) ∧ w'.cell? ⟨bx, 3, none⟩ = some (.int .i64 g) ∧ w'.cell? ⟨bx, 4, none⟩ = some (.int .i64 b) ∧ w'.cell? ⟨bx, 5, none⟩ = some (.int .i64 c) ∧ w'.cell? ⟨bx, 6, none⟩ = some (.string ⟨t.toArray⟩) ∧ w'.cell? ⟨bx + 1, 0, none⟩ = some (.int .i64 k') ∧ w'.cell? ⟨bx + 1, 1, none⟩ = some (.int .i64 n') ∧ w'.cell? ⟨bx + 1, 2, none⟩ = some (.int .i64 r') ∧ w'.cell? ⟨bx + 1, 3, none⟩ = some (.int .i64 g') ∧ w'.cell? ⟨bx + 1, 4, none⟩ = some (.int .i64 b') ∧ w'.cell? ⟨bx + 1, 5, none⟩ = some (.int .i64 c') ∧ w'.cell? ⟨bx + 1, 6, none⟩ = some (.string ⟨t'.toArray⟩) ∧ bx < w'.heap.size ∧ bx + 1 < w'.heap.size ∧ Below w.heap.size w w')
        (first | with_reducible exact held77_drew c0 c1 c2 c3 c4 c5 c6 d0 d1 d2 d3 d4 d5 d6 hlt hld hB | (go_split_ands; with_reducible exact held77_call hb' (by assumption) (by assumption) (by assumption) (by assumption) (by assumption) (by assumption) (by assumption) (by assumption) (by assumption) (by assumption) (by assumption) (by assumption) (by assumption) (by assumption) (by assumption) (by assumption) (by assumption)))
        (first | (go_at_call 7; refine (HT.out _ _ _ _ _ _ _ _).mono ?_; rintro e w' ⟨rfl, hb'⟩) | (go_at_call 9; refine (HS.out _).mono ?_; rintro e w' ⟨rfl, hb'⟩))
      rename_i hS
      clear c0 c1 c2 c3 c4 c5 c6 d0 d1 d2 d3 d4 d5 d6 hlt hld hB
      obtain ⟨c0, c1, c2, c3, c4, c5, c6, d0, d1, d2, d3, d4, d5, d6, hlt, hld, hB⟩ := hS
      go_wp2_with fail
      go_region_held3 (fun w' => w'.cell? ⟨bx, 0, none⟩ = some (.int .i64 k) ∧ w'.cell? ⟨bx, 1, none⟩ = some (.int .i64 n) ∧ w'.cell? ⟨bx, 2, none⟩ = some (.int .i64 r) ∧ w'.cell? ⟨bx, 3, none⟩ = some (.int .i64 g) ∧ w'.cell? ⟨bx, 4, none⟩ = some (.int .i64 b) ∧ w'.cell? ⟨bx, 5, none⟩ = some (.int .i64 c) ∧ w'.cell? ⟨bx, 6, none⟩ = some (.string ⟨t.toArray⟩) ∧ w'.cell? ⟨bx + 1, 0, none⟩ = some (.int .i64 k') ∧ w'.cell? ⟨bx + 1, 1, none⟩ = some (.int .i64 n') ∧ w'.cell? ⟨bx + 1, 2, none⟩ = some (.int .i64 r') ∧ w'.cell? ⟨bx + 1, 3, none⟩ = some (.int .i64 g') ∧ w'.cell? ⟨bx + 1, 4, none⟩ = some (.int .i64 b') ∧ w'.cell? ⟨bx + 1, 5, none⟩ = some (.int .i64 c') ∧ w'.cell? ⟨bx + 1, 6, none⟩ = some (.string ⟨t'.toArray⟩) ∧ bx < w'.heap.size ∧ bx + 1 < w'.heap.size ∧ Below w.heap.size w w')
        (first | with_reducible exact held77_drew c0 c1 c2 c3 c4 c5 c6 d0 d1 d2 d3 d4 d5 d6 hlt hld hB | (go_split_ands; with_reducible exact held77_call hb' (by assumption) (by assumption) (by assumption) (by assumption) (by assumption) (by assumption) (by assumption) (by assumption) (by assumption) (by assumption) (by assumption) (by assumption) (by assumption) (by assumption) (by assumption) (by assumption) (by assumption)))
        (first | (go_at_call 7; refine (HT.out _ _ _ _ _ _ _ _).mono ?_; rintro e w' ⟨rfl, hb'⟩) | (go_at_call 10; refine (HI.out _ (by go_split_ands; assumption)).mono ?_; rintro e w' ⟨rfl, hb'⟩))
      rename_i hS
      clear c0 c1 c2 c3 c4 c5 c6 d0 d1 d2 d3 d4 d5 d6 hlt hld hB
      obtain ⟨c0, c1, c2, c3, c4, c5, c6, d0, d1, d2, d3, d4, d5, d6, hlt, hld, hB⟩ := hS
      have hAA : (A != A) = false := by simp
      go_wp2_with fail
      go_ret
      exact ⟨rfl, hB⟩
    · rw [if_neg hbig2] at HY
      obtain ⟨k, n, r, g, b, c, t⟩ := x
      obtain ⟨k', n', r', g', b', c', t'⟩ := y
      unfold valV at HZ HY ⊢
      dsimp only at HZ HY c0 c1 c2 c3 c4 c5 c6 d0 d1 d2 d3 d4 d5 d6 hlt hld hB ⊢
      clear hbig hbig2 hl hm L ez HT
      go_enter Tryd.func4, Tryd.ntmps4
      go_wp2_with fail
      refine (HZ.out _).mono ?_
      rintro e w1 ⟨rfl, g1⟩
      replace hB := held77_call g1 c0 c1 c2 c3 c4 c5 c6 d0 d1 d2 d3 d4 d5 d6 hlt hld hB
      clear c0 c1 c2 c3 c4 c5 c6 d0 d1 d2 d3 d4 d5 d6 hlt hld g1
      obtain ⟨c0, c1, c2, c3, c4, c5, c6, d0, d1, d2, d3, d4, d5, d6, hlt, hld, hB⟩ := hB
      go_wp2_with fail
      refine (HY.out _).mono ?_
      rintro e w2 ⟨rfl, g2⟩
      go_wp2_with fail
      go_ret
      exact ⟨rfl, hB.trans (g2.mono hB.size)⟩
  · rw [if_neg hbig] at HZ
    obtain ⟨k, n, r, g, b, c, t⟩ := x
    obtain ⟨k', n', r', g', b', c', t'⟩ := y
    unfold valV at HZ ⊢
    dsimp only at HZ hB ⊢
    clear hbig hl hm L HT c0 c1 c2 c3 c4 c5 c6 d0 d1 d2 d3 d4 d5 d6
    go_enter Tryd.func4, Tryd.ntmps4
    go_wp2_with fail
    refine (HZ.out _).mono ?_
    rintro e w1 ⟨rfl, g1⟩
    go_wp2_with fail
    go_ret
    exact ⟨rfl, hB.trans (g1.mono hB.size)⟩

set_option maxRecDepth 100000 in
theorem lifted (os : Os) (started : os.Started) (H : Type) (enc : TypeId × Value → H) :
    ReturnsInHanded {} Tryd.checked os 4 .any (fun w args => (Rows.fnExactApartSpec.pre enc Tryd.prog Tryd.f4 Rows.fnExactApartRow.domain false w args ∧ laidMetH Tryd.prog Rows.fnExactApartRow.laid w) ∧ sizedMet enc Tryd.prog Tryd.f4 (OpenSpec.ofChange Rows.fnExactApartSpec) false w args)
      (Rows.fnExactApartSpec.post enc Tryd.prog Tryd.f4 false true false false) := by
  refine returnsInHanded_of_calls (C := Tryd.checked) own started (by kernel_rfl)
    (ChangeSpec.witness_shaped (enc := enc) (C := Tryd.checked) (os := os) (X := fun w _ => laidMetH Tryd.prog Rows.fnExactApartRow.laid w) false (World.laidAll Tryd.prog os Rows.fnExactApartRow.laid) #[.agg #[.int .i64 0, .int .i64 0, .int .i64 0, .int .i64 0, .int .i64 0, .int .i64 0, .string ⟨#[]⟩], .agg #[.int .i64 0, .int .i64 0, .int .i64 0, .int .i64 0, .int .i64 0, .int .i64 0, .string ⟨#[]⟩]] 8 (World.laidAll_os _ _ _)
      (World.shaped_of_ZipB (by kernel_rfl) (by kernel_rfl)) (by kernel_rfl) (by kernel_rfl) (by kernel_rfl)
      (by rw [MakeChecks.laidMetH_plain _ _ _ (by kernel_rfl)]; exact laidMet_laidAll _ (by kernel_rfl) (by kernel_rfl))) ?_
  intro w0 tape i _ hsh0 _ hok hpre _
  obtain ⟨_, _, _, fn', hfn', _, _, _, _, hval00⟩ := hok
  obtain rfl : fn' = Tryd.f4 := Option.some.inj (hfn'.symm.trans Tryd.func4)
  obtain ⟨⟨⟨ds, gs, before, hw, _⟩, hx⟩, _⟩ := hpre
  have hW0 := DataW.Whole.of_heap (w' := w0.forCall tape i) (by rfl) hw
  have hL0 : laidMetH Tryd.prog Rows.fnExactApartRow.laid (w0.forCall tape i) := hx.of_heap (by rfl)
  suffices hgo : ∀ (W : World) (base : Nat) (args : Array Value), (∀ (j : Nat) t v, Tryd.f4.params[j]? = some t → args[j]? = some v → Value.okWide Tryd.prog W .any base t v) →
      DataW.Whole enc Tryd.prog Tryd.f4.params.toList Rows.fnExactApartSpec.vars false W args.toList ds gs before → laidMetH Tryd.prog Rows.fnExactApartRow.laid W → W.ShapedOpen Tryd.prog →
      Calls Tryd.prog 4 args W fun e W' => ∃ v, e = .returned v ∧ Rows.fnExactApartSpec.post enc Tryd.prog Tryd.f4 false true false false W args v W' by
    refine (hgo _ _ _ hval00 hW0 hL0 hsh0).mono fun e W' ⟨v, he, hp⟩ => ?_
    subst he
    exact ChangeSpec.post_blind hp
  clear hsh0 hval00 hW0 hL0 hx hw hfn'
  intro W base args hval0 hW hL hsh
  have hval : ∀ (j : Nat) t v, Tryd.f4.params[j]? = some t → args[j]? = some v → Value.okWide Tryd.prog W .any base t v := hval0
  have hW' := hW
  obtain ⟨p, q, hA0, hV, rfl, hfz, hnd⟩ := hW
  have hA : DataW.TrodAll enc Tryd.prog W 0 (fun _ => true) true Tryd.f4.params.toList args.toList ds p := hA0
  rw [Tryd.params4] at hA hval
  obtain ⟨v0, vs0, d0, ds0, p0, q0, hargs, rfl, rfl, h0, r0⟩ := trodAll_cons hA
  obtain ⟨v1, vs1, d1, ds1, p1, q1, rfl, rfl, rfl, h1, r1⟩ := trodAll_cons r0
  obtain ⟨rfl, rfl, rfl⟩ := trodAll_nil r1
  obtain rfl : args = #[v0, v1] := by cases args; simp_all
  obtain ⟨rfl, rfl⟩ := trodVars_none hV
  have k0 := h0
  have lt0 : ∀ x ∈ p0, x.block < W.heap.size := by obtain ⟨m, hm⟩ := k0; exact DataW.trod_lt m _ _ _ hm
  have k1 := h1
  have lt1 : ∀ x ∈ p1, x.block < W.heap.size := by obtain ⟨m, hm⟩ := k1; exact DataW.trod_lt m _ _ _ hm
  obtain ⟨x0, rfl, hl0⟩ := open_value (hval 0 23 v0 rfl rfl) h0
  obtain ⟨x1, rfl, hl1⟩ := open_value (hval 1 23 v1 rfl rfl) h1
  refine (walk x0 x1 hl0 hl1 W (B7.laid_apart hL)).mono fun e W' ⟨he, bel⟩ => ?_
  subst he
  exact ⟨_, rfl, _, _, _, [], _, [], hW', trodAll_mk1 (shut_bool Tryd.underlying4 _), (trodAll_cons_mk (Below.trod laidOut (by kernel_rfl) (of_decide_eq_true (by kernel_rfl)) k0 bel lt0) (trodAll_cons_mk (Below.trod laidOut (by kernel_rfl) (of_decide_eq_true (by kernel_rfl)) k1 bel lt1) trodAll_mk0)), rfl, bel.frame _, fun h => by cases h⟩

theorem over : Rows.fnExactApartRow.holds Tryd.pinned (OpenSpec.ofChange Rows.fnExactApartSpec) :=
  OpenClaim.holds_of_wide 4 Tryd.f4 rfl rfl rfl rfl rfl rfl rfl ⟨rfl, rfl, rfl, rfl, rfl⟩ rfl rfl rfl rfl rfl (by kernel_rfl) Tryd.func4 (by kernel_rfl)
    (of_decide_eq_true (by kernel_rfl)) (by unfold Func.isWrapper; first | (rw [if_pos (by decide +kernel)]; kernel_rfl) | (rw [if_neg (by decide +kernel)]; exact ⟨rfl, rfl⟩))
    (fun os started H enc _ => lifted os started H enc)

theorem proved : Rows.FnExactApartCardSaid :=
  Claim7.holds_tied_plain_at .later [] [.data, .data, .data, .sentinel, .sentinel] true (true, "de999f157cd01661853acd82f89835f7e91991c2b55d861749f4d5fae0be524a") true over (fun _ h => by cases h) (by kernel_rfl) (fun _ h => by cases h) fnExactApart_row_tie rfl ⟨rfl, rfl⟩ (by kernel_rfl) rfl
    (fun f fn hf hfn => by
      obtain rfl : f = 4 := Option.some.inj ((show Tryd.prog.funcNamed "loop.example/g00521/laws.FnExactApart" = some 4 by kernel_rfl).symm.trans hf) |>.symm
      obtain rfl : fn = Tryd.f4 := (Option.some.inj (Tryd.func4.symm.trans hfn)).symm
      exact ⟨by kernel_rfl, fun j t ht => by
        have hm : t ∈ Tryd.f4.params.toList := by simpa using Array.mem_of_getElem? ht
        have hall : (Tryd.f4.params.toList.all fun u => !Tryd.prog.wantsStandIn u) = true := by kernel_rfl
        exact (show Tryd.prog.wantsStandIn t = false by simpa using List.all_eq_true.1 hall t hm)⟩)
    (by kernel_rfl)
#print axioms proved
end Go.Proofs.YtkeofllcccgbbaaDoor.fnExactApart
