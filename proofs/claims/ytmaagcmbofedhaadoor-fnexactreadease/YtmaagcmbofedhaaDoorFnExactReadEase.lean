/- Proved: for every string FnExactReadEase answers true: the program's ReadEase answers as the reference's (of a string of more than 1048576 bytes the law asks nothing). No condition. -/
import Derived.Test.YtmaagcmbofedhaaDoorBase4e
import Derived.Test.YtmaagcmbofedhaaDoorDoorF
import Derived.Test.YtmaagcmbofedhaaDoorRows
import Derived.Test.YtmaagcmbofedhaaDoorCards
import Derived.Test.YtmaagcmbofedhaaDoorTie
import Derived.WalkKit
import Derived.ProofKit
import Derived.OpenShut
import Derived.ShutString
import Derived.ChangeOld
import Derived.Below
import Derived.OpenVars
import Derived.ChangeVars
import Derived.Handed
import Derived.Lay
import Derived.LaidLaws
import Derived.MakeChecks
import Derived.SevenTiedAt
import Derived.Stop.Joined
namespace Go.Proofs.YtmaagcmbofedhaaDoor.fnExactReadEase
open Go.ChangeShapes Go.WideShapes Go.ChangeAt Go.RowKit
open Go.ChangeMaps (open_string shut_string)
set_option linter.unusedVariables false

theorem own : ownKnob Tryd.prog.godebug = none := by kernel_rfl
theorem laidOut : laidOutB Tryd.prog = true := by kernel_rfl

open Go.Proofs.YtmaagcmbofedhaaDoor.P1 Go.Proofs.YtmaagcmbofedhaaDoor.B1 Go.Proofs.YtmaagcmbofedhaaDoor.P2 Go.Proofs.YtmaagcmbofedhaaDoor.B2 Go.Proofs.YtmaagcmbofedhaaDoor.P3 Go.Proofs.YtmaagcmbofedhaaDoor.B3 Go.Proofs.YtmaagcmbofedhaaDoor.T1 Go.Proofs.YtmaagcmbofedhaaDoor.BT Go.Proofs.YtmaagcmbofedhaaDoor.P4 Go.Proofs.YtmaagcmbofedhaaDoor.B4 Go.Proofs.YtmaagcmbofedhaaDoor.D1
theorem same_self (x : Es) : sameEase x.k x.x1 x.y1 x.x2 x.y2 x.c x.j x.k x.x1 x.y1 x.x2 x.y2 x.c x.j = true := by simp [sameEase]
set_option maxRecDepth 20000 in
set_option maxHeartbeats 2000000 in
theorem walk (s : List UInt8) (w : World) (R : LaidR w) :
    Calls Tryd.prog 5 #[.string ⟨s.toArray⟩] w (Ans (.bool true) w) := by
  have RR := Lib.hid R
  clear R
  obtain ⟨L, eL⟩ : ∃ L, s.length = L := ⟨_, rfl⟩
  have hlen := fun (w' : World) (t : TypeId) => str_lenN s L eL w' t
  by_cases hbig : 1048576 < L
  · have hbig' : (1048576 : Int) < (L : Int) := by omega
    go_enter Tryd.func5, Tryd.ntmps5
    go_wp2
    go_ret
    exact ⟨rfl, Below.refl _ _⟩
  · have hbig' : ¬ (1048576 : Int) < (L : Int) := by omega
    have hl : s.length ≤ 1048576 := by omega
    have HL := Lib.hid hl
    have hsame := same_self (easeOf s)
    clear hl eL
    go_enter Tryd.func5, Tryd.ntmps5
    go_wp2_with fail
    refine (ReadEase_spec s _ HL.out).mono ?_
    rintro e w1 ⟨rfl, hb1⟩
    obtain ⟨x, ex⟩ : ∃ x, easeOf s = x := ⟨_, rfl⟩
    obtain ⟨q, eq⟩ : ∃ q, isEase s = q := ⟨_, rfl⟩
    rw [ex] at hsame
    have HX := Lib.hid ex
    have HQ := Lib.hid eq
    rw [ex, eq]
    clear ex eq
    unfold easeV
    go_wp2_with fail
    refine (ReadEase_impl s _ (RR.out.on (hb1.alloc hb1.size _)) HL.out).mono ?_
    rintro e w2 ⟨rfl, hb2⟩
    rw [HX.out, HQ.out]
    obtain ⟨hc2, hf2⟩ := bcell hb2
    unfold easeV
    have hz : w1.heap.size < w2.heap.size := by have := hb2.size; simp at this; omega
    go_wp2_with fail
    refine (eqEase_laws x x _).mono ?_
    rintro e w3 ⟨rfl, hb3⟩
    go_wp2
    go_ret
    exact ⟨rfl, by
      have h1 := hb1
      have h2 := (hb1.trans ((Below.box hb2).mono hb1.size))
      exact (h2.alloc h2.size _).trans (hb3.mono (by have := h2.size; simp; omega))⟩

set_option maxRecDepth 100000 in
theorem lifted (os : Os) (started : os.Started) (H : Type) (enc : TypeId × Value → H) :
    ReturnsInHanded {} Tryd.checked os 5 .any (fun w args => (Rows.fnExactReadEaseSpec.pre enc Tryd.prog Tryd.f5 Rows.fnExactReadEaseRow.domain false w args ∧ laidMetH Tryd.prog Rows.fnExactReadEaseRow.laid w) ∧ sizedMet enc Tryd.prog Tryd.f5 (OpenSpec.ofChange Rows.fnExactReadEaseSpec) false w args)
      (Rows.fnExactReadEaseSpec.post enc Tryd.prog Tryd.f5 false true false false) := by
  refine returnsInHanded_of_calls (C := Tryd.checked) own started (by kernel_rfl)
    (ChangeSpec.witness_shaped (enc := enc) (C := Tryd.checked) (os := os) (X := fun w _ => laidMetH Tryd.prog Rows.fnExactReadEaseRow.laid w) false (World.laidAll Tryd.prog os Rows.fnExactReadEaseRow.laid) #[.string ⟨#[]⟩] 8 (World.laidAll_os _ _ _)
      (World.shaped_of_ZipB (by kernel_rfl) (by kernel_rfl)) (by kernel_rfl) (by kernel_rfl) (by kernel_rfl)
      (by rw [MakeChecks.laidMetH_plain _ _ _ (by kernel_rfl)]; exact laidMet_laidAll _ (by kernel_rfl) (by kernel_rfl))) ?_
  intro w0 tape i _ hsh0 _ hok hpre _
  obtain ⟨_, _, _, fn', hfn', _, _, _, _, hval00⟩ := hok
  obtain rfl : fn' = Tryd.f5 := Option.some.inj (hfn'.symm.trans Tryd.func5)
  obtain ⟨⟨⟨ds, gs, before, hw, _⟩, hx⟩, _⟩ := hpre
  have hW0 := DataW.Whole.of_heap (w' := w0.forCall tape i) (by rfl) hw
  have hL0 : laidMetH Tryd.prog Rows.fnExactReadEaseRow.laid (w0.forCall tape i) := hx.of_heap (by rfl)
  suffices hgo : ∀ (W : World) (base : Nat) (args : Array Value), (∀ (j : Nat) t v, Tryd.f5.params[j]? = some t → args[j]? = some v → Value.okWide Tryd.prog W .any base t v) →
      DataW.Whole enc Tryd.prog Tryd.f5.params.toList Rows.fnExactReadEaseSpec.vars false W args.toList ds gs before → laidMetH Tryd.prog Rows.fnExactReadEaseRow.laid W → W.ShapedOpen Tryd.prog →
      Calls Tryd.prog 5 args W fun e W' => ∃ v, e = .returned v ∧ Rows.fnExactReadEaseSpec.post enc Tryd.prog Tryd.f5 false true false false W args v W' by
    refine (hgo _ _ _ hval00 hW0 hL0 hsh0).mono fun e W' ⟨v, he, hp⟩ => ?_
    subst he
    exact ChangeSpec.post_blind hp
  clear hsh0 hval00 hW0 hL0 hx hw hfn'
  intro W base args hval0 hW hL hsh
  have hval : ∀ (j : Nat) t v, Tryd.f5.params[j]? = some t → args[j]? = some v → Value.okWide Tryd.prog W .any base t v := hval0
  have hW' := hW
  obtain ⟨p, q, hA0, hV, rfl, hfz, hnd⟩ := hW
  have hA : DataW.TrodAll enc Tryd.prog W 0 (fun _ => true) true Tryd.f5.params.toList args.toList ds p := hA0
  rw [Tryd.params5] at hA hval
  obtain ⟨v0, vs0, d0, ds0, p0, q0, hargs, rfl, rfl, h0, r0⟩ := trodAll_cons hA
  obtain ⟨rfl, rfl, rfl⟩ := trodAll_nil r0
  obtain rfl : args = #[v0] := by cases args; simp_all
  have hV1 : DataW.TrodVars enc Tryd.prog W (fun _ => true) Rows.fnExactReadEaseSpec.vars gs q := hV
  obtain ⟨g1, rfl⟩ : ∃ g1, gs = [g1] := by
    rcases gs with _ | ⟨g1, _ | ⟨g2, r⟩⟩
    · exact hV.elim
    · exact ⟨g1, rfl⟩
    · obtain ⟨_, _, _, _, _, _, _, _, _, _, h, _⟩ := hV
      exact h.elim
  have k0 := h0
  have lt0 : ∀ x ∈ p0, x.block < W.heap.size := by obtain ⟨m, hm⟩ := k0; exact DataW.trod_lt m _ _ _ hm
  obtain ⟨s0, rfl, rfl, rfl, _⟩ := open_string Tryd.underlying9 (hval 0 9 v0 rfl rfl) h0
  obtain ⟨s, rfl⟩ : ∃ l : List UInt8, s0 = ⟨l.toArray⟩ := ⟨s0.data.toList, by cases s0; simp⟩
  refine (walk s W (laid_read hL hsh)).mono fun e W' ⟨he, bel⟩ => ?_
  subst he
  exact ⟨_, rfl, _, _, _, [], _, _, hW', trodAll_mk1 (shut_bool Tryd.underlying4 _), (trodAll_cons_mk (Below.trod laidOut (by kernel_rfl) (of_decide_eq_true (by kernel_rfl)) k0 bel lt0) trodAll_mk0), (Below.trodVars laidOut bel (by kernel_rfl) hV1), bel.frame _, fun h => by cases h⟩

theorem over : Rows.fnExactReadEaseRow.holds Tryd.pinned (OpenSpec.ofChange Rows.fnExactReadEaseSpec) :=
  OpenClaim.holds_of_wide 5 Tryd.f5 rfl rfl rfl rfl rfl rfl rfl ⟨rfl, rfl, rfl, rfl, rfl⟩ rfl rfl rfl rfl rfl (by kernel_rfl) Tryd.func5 (by kernel_rfl)
    (of_decide_eq_true (by kernel_rfl)) (by unfold Func.isWrapper; first | (rw [if_pos (by decide +kernel)]; kernel_rfl) | (rw [if_neg (by decide +kernel)]; exact ⟨rfl, rfl⟩))
    (fun os started H enc _ => lifted os started H enc)

theorem proved : Rows.FnExactReadEaseCardSaid :=
  Claim7.holds_tied_plain_at .later [] [.data, .data, .data, .data, .sentinel, .sentinel, .data, .pinned] true (true, "a589b46f826fe976c689a7a3bd2af83f2301982a28e27e5b83ec3c8b29390e89") true over (fun _ h => by cases h) (by kernel_rfl) (fun _ h => by cases h) fnExactReadEase_row_tie rfl ⟨rfl, rfl⟩ (by kernel_rfl) rfl
    (fun f fn hf hfn => by
      obtain rfl : f = 5 := Option.some.inj ((show Tryd.prog.funcNamed "loop.example/g00521/laws.FnExactReadEase" = some 5 by kernel_rfl).symm.trans hf) |>.symm
      obtain rfl : fn = Tryd.f5 := (Option.some.inj (Tryd.func5.symm.trans hfn)).symm
      exact ⟨by kernel_rfl, fun j t ht => by
        have hm : t ∈ Tryd.f5.params.toList := by simpa using Array.mem_of_getElem? ht
        have hall : (Tryd.f5.params.toList.all fun u => !Tryd.prog.wantsStandIn u) = true := by kernel_rfl
        exact (show Tryd.prog.wantsStandIn t = false by simpa using List.all_eq_true.1 hall t hm)⟩)
    (by kernel_rfl)
#print axioms proved
end Go.Proofs.YtmaagcmbofedhaaDoor.fnExactReadEase
