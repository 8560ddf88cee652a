/- Proved: for every slice of bytes FnBetween answers true: between two numbers it is the one at 0, the other one at One, and goes on and on, as drawn. No condition. -/
import Derived.Test.YtbmlonpbonfjnaaDraw1
import Derived.Test.YtbmlonpbonfjnaaRows
import Derived.WalkKit
import Derived.ProofKit
import Derived.OpenShut
import Derived.ShutString
import Derived.ChangeOld
import Derived.Below
namespace Go.Proofs.Ytbmlonpbonfjnaa.fnBetween
open Go.ChangeShapes Go.WideShapes Go.ChangeAt Go.RowKit
open Go.ChangeMaps (open_string shut_string)
set_option linter.unusedVariables false

theorem own : ownKnob Try.prog.godebug = none := by kernel_rfl
theorem laidOut : laidOutB Try.prog = true := by kernel_rfl

/-- WHAT THE WALK IS TOLD OF A SLICE OF INTEGERS THAT CAME IN: it is nil; or it leads to a row of 'cap' cells, the numbers 'zs' (the first 'len' are its elements, the rest its spare room), each fitting its kind. -/
def IsRow (k : IntKind) (w : World) (a : Option Addr) (len cap : Nat) (zs : List Int) : Prop :=
  (a = none ∧ len = 0 ∧ cap = 0 ∧ zs = []) ∨
  ∃ x, a = some x ∧ len ≤ cap ∧ cap ≤ maxLen ∧ zs.length = cap ∧ (∀ i, i < zs.length → w.cell? (x.add i) = some (.int k (zs.getD i 0))) ∧ ∀ n ∈ zs, (Lit.int k n).wf = true

open Go.Proofs.Ytbmlonpbonfjnaa.P1 Go.Proofs.Ytbmlonpbonfjnaa.B1 Go.Proofs.Ytbmlonpbonfjnaa.D1
theorem bytes_of {w : World} {a : Option Addr} {len cap : Nat} {zs : List Int} (h : IsRow .u8 w a len cap zs) (hl : len ≤ 4096) : Bytes w w.heap.size a len := by
  refine ⟨hl, fun i hi => ?_⟩
  rcases h with ⟨_, h0, _, _⟩ | ⟨x, rfl, hlc, hm, hz, hcell, hwf⟩
  · omega
  · obtain ⟨b, off, rfl, hc⟩ := ints_at hcell (by omega)
    have hci := hc i (by omega)
    have hb : b < w.heap.size := by
      apply Classical.byContradiction
      intro hn
      have : w.cell? ⟨b, off + i, none⟩ = none := by
        simp [World.cell?, Array.getElem?_eq_none (show w.heap.size ≤ b from by omega)]
      rw [this] at hci; cases hci
    refine ⟨b, off, _, rfl, hb, by omega, hci, ?_⟩
    have := range_u8 hwf i
    simpa using this
set_option maxRecDepth 100000 in
set_option maxHeartbeats 1000000 in
theorem walk (a0 : Option Addr) (len0 cap0 : Nat) (z0 : List Int) (w : World) (w0 : IsRow .u8 w a0 len0 cap0 z0) :
    Calls Try.prog 4 #[.slice a0 len0 cap0] w fun e w' => e = .returned (.bool true) ∧ Below w.heap.size w w' := by
  by_cases hbig : 4096 < len0
  · go_enter Try.func4, Try.ntmps4
    go_wp2
    go_ret
    exact ⟨rfl, Below.refl _ _⟩
  · have hb := bytes_of w0 (by omega)
    clear w0
    go_enter Try.func4, Try.ntmps4
    go_wp2_with (first | (go_at_call 10; go_in) | fail)
    refine (Between_draw _ a0 len0 cap0 hb).mono ?_
    rintro e w1 ⟨a, b, p, ⟨ha0, ha1, hb0, hb1, hp0, hp1⟩, rfl, hk⟩
    clear hb
    by_cases hv : InEnd a ∧ InReach p
    · obtain ⟨va, vp⟩ := hv
      have vb : InEnd b := ⟨by omega, by omega⟩
      have q0 := between_zero va vb
      have q1 := between_one va vb
      have q2 := between_self va vp
      have Hup := Lib.hid (fun (hq : InReach (p - 1)) (h : a ≤ b) => between_up va vb vp hq h)
      have Hdn := Lib.hid (fun (hq : InReach (p - 1)) (h : b ≤ a) => between_down va vb vp hq h)
      have Hiu := Lib.hid (fun h0 h1 (h : a ≤ b) => between_in_up va vb (p := p) h0 h1 h)
      have Hid' := Lib.hid (fun h0 h1 (h : b ≤ a) => between_in_down va vb (p := p) h0 h1 h)
      obtain ⟨va0, va1⟩ := va
      obtain ⟨vp0, vp1⟩ := vp
      clear vb
      by_cases hm : -131072 < p
      · by_cases hab : a ≤ b
        · have u := Hup.out ⟨by omega, by omega⟩ hab
          clear Hup Hdn Hid'
          by_cases hs : a < b
          · by_cases hin : 0 ≤ p ∧ p ≤ 65536
            · obtain ⟨i0, i1⟩ := hin
              obtain ⟨j0, j1⟩ := Hiu.out i0 i1 hab
              clear Hiu
              go_wp2_with (first | (go_at_call 20; refine (Between_impl _ _ _ _).mono ?_; rintro e w' ⟨rfl, rfl⟩) | (go_at_call 21; refine (Between_spec _ _ _ _).mono ?_; rintro e w' ⟨rfl, rfl⟩) | (go_at_call 22; refine (size_laws _ _ (by omega) (by omega)).mono ?_; rintro e w' ⟨rfl, rfl⟩))
              go_ret
              exact ⟨rfl, hk⟩
            · clear Hiu
              rcases (show p < 0 ∨ (0 ≤ p ∧ 65536 < p) from by omega) with d1 | ⟨d1, d2⟩
              all_goals
                clear hin
                go_wp2_with (first | (go_at_call 20; refine (Between_impl _ _ _ _).mono ?_; rintro e w' ⟨rfl, rfl⟩) | (go_at_call 21; refine (Between_spec _ _ _ _).mono ?_; rintro e w' ⟨rfl, rfl⟩) | (go_at_call 22; refine (size_laws _ _ (by omega) (by omega)).mono ?_; rintro e w' ⟨rfl, rfl⟩))
                go_ret
                exact ⟨rfl, hk⟩
          · by_cases hin : 0 ≤ p ∧ p ≤ 65536
            · obtain ⟨i0, i1⟩ := hin
              obtain ⟨j0, j1⟩ := Hiu.out i0 i1 hab
              clear Hiu
              go_wp2_with (first | (go_at_call 20; refine (Between_impl _ _ _ _).mono ?_; rintro e w' ⟨rfl, rfl⟩) | (go_at_call 21; refine (Between_spec _ _ _ _).mono ?_; rintro e w' ⟨rfl, rfl⟩) | (go_at_call 22; refine (size_laws _ _ (by omega) (by omega)).mono ?_; rintro e w' ⟨rfl, rfl⟩))
              go_ret
              exact ⟨rfl, hk⟩
            · clear Hiu
              rcases (show p < 0 ∨ (0 ≤ p ∧ 65536 < p) from by omega) with d1 | ⟨d1, d2⟩
              all_goals
                clear hin
                go_wp2_with (first | (go_at_call 20; refine (Between_impl _ _ _ _).mono ?_; rintro e w' ⟨rfl, rfl⟩) | (go_at_call 21; refine (Between_spec _ _ _ _).mono ?_; rintro e w' ⟨rfl, rfl⟩) | (go_at_call 22; refine (size_laws _ _ (by omega) (by omega)).mono ?_; rintro e w' ⟨rfl, rfl⟩))
                go_ret
                exact ⟨rfl, hk⟩
        · have u := Hdn.out ⟨by omega, by omega⟩ (by omega)
          clear Hup Hdn Hiu
          by_cases hin : 0 ≤ p ∧ p ≤ 65536
          · obtain ⟨i0, i1⟩ := hin
            obtain ⟨j0, j1⟩ := Hid'.out i0 i1 (by omega)
            clear Hid'
            go_wp2_with (first | (go_at_call 20; refine (Between_impl _ _ _ _).mono ?_; rintro e w' ⟨rfl, rfl⟩) | (go_at_call 21; refine (Between_spec _ _ _ _).mono ?_; rintro e w' ⟨rfl, rfl⟩) | (go_at_call 22; refine (size_laws _ _ (by omega) (by omega)).mono ?_; rintro e w' ⟨rfl, rfl⟩))
            go_ret
            exact ⟨rfl, hk⟩
          · clear Hid'
            rcases (show p < 0 ∨ (0 ≤ p ∧ 65536 < p) from by omega) with d1 | ⟨d1, d2⟩
            all_goals
              clear hin
              go_wp2_with (first | (go_at_call 20; refine (Between_impl _ _ _ _).mono ?_; rintro e w' ⟨rfl, rfl⟩) | (go_at_call 21; refine (Between_spec _ _ _ _).mono ?_; rintro e w' ⟨rfl, rfl⟩) | (go_at_call 22; refine (size_laws _ _ (by omega) (by omega)).mono ?_; rintro e w' ⟨rfl, rfl⟩))
              go_ret
              exact ⟨rfl, hk⟩
      · have hlow : p < 0 := by omega
        clear Hup Hdn Hiu Hid'
        go_wp2_with (first | (go_at_call 20; refine (Between_impl _ _ _ _).mono ?_; rintro e w' ⟨rfl, rfl⟩) | (go_at_call 21; refine (Between_spec _ _ _ _).mono ?_; rintro e w' ⟨rfl, rfl⟩) | (go_at_call 22; refine (size_laws _ _ (by omega) (by omega)).mono ?_; rintro e w' ⟨rfl, rfl⟩))
        go_ret
        exact ⟨rfl, hk⟩
    · have q0 : between a b p = 0 := between_not (by by_cases h : InEnd a; exact Or.inr (Or.inr (fun hp => hv ⟨h, hp⟩)); exact Or.inl h)
      have hcase : (a < -1000000000) ∨ (1000000000 < a) ∨ (-1000000000 ≤ a ∧ a ≤ 1000000000 ∧ p < -131072) ∨ (-1000000000 ≤ a ∧ a ≤ 1000000000 ∧ -131072 ≤ p ∧ 196608 < p) := by
        unfold InEnd InReach at hv; omega
      clear hv
      rcases hcase with d1 | d1 | ⟨d1, d2, d3⟩ | ⟨d1, d2, d3, d4⟩
      all_goals
        go_wp2_with (first | (go_at_call 20; refine (Between_impl _ _ _ _).mono ?_; rintro e w' ⟨rfl, rfl⟩) | (go_at_call 21; refine (Between_spec _ _ _ _).mono ?_; rintro e w' ⟨rfl, rfl⟩) | (go_at_call 22; refine (size_laws _ _ (by omega) (by omega)).mono ?_; rintro e w' ⟨rfl, rfl⟩))
        go_ret
        exact ⟨rfl, hk⟩

/-! ### THE ROW's STEP: WRITTEN OUT: LEAVE IT -/
set_option maxRecDepth 100000 in
theorem lifted (os : Os) (started : os.Started) (H : Type) (enc : TypeId × Value → H) :
    ReturnsInHanded {} Try.checked os 4 .any (Rows.fnBetweenSpec.pre6 enc Try.prog Try.f4 Rows.fnBetweenRow.domain false) (Rows.fnBetweenSpec.post enc Try.prog Try.f4 false true false false) := by
  refine returnsInHanded_of_change (C := Try.checked) own started (by kernel_rfl) Try.func4
    (ChangeSpec.witness6 (enc := enc) (C := Try.checked) false ⟨#[], #[.slice none 0 0], []⟩ 8 (by kernel_rfl) (by kernel_rfl) (by kernel_rfl) (by kernel_rfl)) ?_
  intro W base args ds gs before hval0 hW hcnd _
  have hval : ∀ (j : Nat) t v, Try.f4.params[j]? = some t → args[j]? = some v → Value.okWide Try.prog W .any base t v := hval0
  have hW' := hW
  obtain ⟨p, q, hA0, hV, rfl, hfz, hnd⟩ := hW
  have hA : DataW.TrodAll enc Try.prog W 0 (fun _ => true) true Try.f4.params.toList args.toList ds p := hA0
  rw [Try.params4] at hA hval
  obtain ⟨v0, vs0, d0, ds0, p0, q0, hargs, rfl, rfl, h0, r0⟩ := trodAll_cons hA
  obtain ⟨rfl, rfl, rfl⟩ := trodAll_nil r0
  obtain rfl : args = #[v0] := by cases args; simp_all
  obtain ⟨rfl, rfl⟩ := trodVars_none hV
  obtain ⟨a0, len0, cap0, rfl⟩ := okWide_slice Try.underlying22 (hval 0 22 v0 rfl rfl)
  have k0 := h0
  have lt0 : ∀ x ∈ p0, x.block < W.heap.size := by obtain ⟨m, hm⟩ := k0; exact DataW.trod_lt m _ _ _ hm
  obtain ⟨z0, w0⟩ : ∃ zs, IsRow .u8 W a0 len0 cap0 zs := by
    obtain ⟨fuel, hf⟩ := h0
    rcases open_ints Try.underlying22 Try.underlying5 (by kernel_rfl) hf with ⟨hcs, _⟩ | ⟨x, l, c, zs, hcs, _, hl, hm, hz, _, hcell, hwz⟩
    · simp [Value.cells] at hcs
      obtain ⟨rfl, rfl, rfl⟩ := hcs
      exact ⟨[], .inl ⟨rfl, rfl, rfl, rfl⟩⟩
    · simp [Value.cells] at hcs
      obtain ⟨rfl, rfl, rfl⟩ := hcs
      exact ⟨zs, .inr ⟨_, rfl, hl, hm, by simpa using hz, hcell, hwz⟩⟩
  clear hA0 hval0
  refine (walk a0 len0 cap0 z0 W w0).mono fun e W' ⟨he, bel⟩ => ?_
  subst he
  exact ⟨_, rfl, _, _, _, [], _, [], hW', trodAll_mk1 (shut_bool Try.underlying4 _), (trodAll_cons_mk (Below.trod laidOut (by kernel_rfl) (of_decide_eq_true (by kernel_rfl)) k0 bel lt0) trodAll_mk0), rfl, bel.frame _, fun h => by cases h⟩

theorem over : Rows.fnBetweenRow.holds Try.pinned (OpenSpec.ofChange Rows.fnBetweenSpec) :=
  OpenClaim.holds_of_wide 4 Try.f4 rfl rfl rfl rfl rfl rfl rfl ⟨rfl, rfl, rfl, rfl, rfl⟩ rfl rfl rfl rfl rfl (by kernel_rfl) Try.func4 (by kernel_rfl)
    (of_decide_eq_true (by kernel_rfl)) (by unfold Func.isWrapper; first | (rw [if_pos (by decide +kernel)]; kernel_rfl) | (rw [if_neg (by decide +kernel)]; exact ⟨rfl, rfl⟩))
    (fun os started H enc _ => lifted os started H enc)

/-- ████ THE STATEMENT ████ -/
theorem proved : Rows.FnBetweenSaid := over
#print axioms proved
end Go.Proofs.Ytbmlonpbonfjnaa.fnBetween
