/- Proved: for every slice of bytes FnSqueezed answers true: squeezed there are no spaces at the ends, none beside another one, and all else in order, of the tokens that the bytes draw. No condition. -/
import Derived.Test.YtniemiofffecjaaDoorImp5i
import Derived.Test.YtniemiofffecjaaDoorDraw5
import Derived.Test.YtniemiofffecjaaDoorDoor5
import Derived.Test.YtniemiofffecjaaDoorOpenB
import Derived.Test.YtniemiofffecjaaDoorRows
import Derived.Test.YtniemiofffecjaaDoorCards
import Derived.Test.YtniemiofffecjaaDoorTie
import Derived.WalkKit
import Derived.ProofKit
import Derived.OpenShut
import Derived.ShutString
import Derived.ChangeOld
import Derived.Below
import Derived.OpenVars
import Derived.ChangeVars
import Derived.Handed
import Derived.Lay
import Derived.LaidLaws
import Derived.MakeChecks
import Derived.SevenTiedAt
import Derived.Stop.Joined
namespace Go.Proofs.YtniemiofffecjaaDoor.fnSqueezed
open Go.ChangeShapes Go.WideShapes Go.ChangeAt Go.RowKit
open Go.ChangeMaps (open_string shut_string)
set_option linter.unusedVariables false

theorem own : ownKnob Tryd.prog.godebug = none := by kernel_rfl
theorem laidOut : laidOutB Tryd.prog = true := by kernel_rfl

open Go.Proofs.YtniemiofffecjaaDoor.P1 Go.Proofs.YtniemiofffecjaaDoor.B1 Go.Proofs.YtniemiofffecjaaDoor.B2 Go.Proofs.YtniemiofffecjaaDoor.T1 Go.Proofs.YtniemiofffecjaaDoor.BT Go.Proofs.YtniemiofffecjaaDoor.P5 Go.Proofs.YtniemiofffecjaaDoor.B5 Go.Proofs.YtniemiofffecjaaDoor.D1 Go.Proofs.YtniemiofffecjaaDoor.D5
set_option maxRecDepth 100000 in
set_option maxHeartbeats 2000000 in
theorem walk (a0 : Option Addr) (len0 cap0 : Nat) (w : World) (w0 : len0 ≤ 4096 → Bytes w w.heap.size a0 len0) (L : Pow w) :
    Calls Tryd.prog 4 #[.slice a0 len0 cap0] w (Ans (.bool true) w) := by
  have HP := Lib.hid L
  clear L
  by_cases hbig : 4096 < len0
  · go_enter Tryd.func4, Tryd.ntmps4
    go_wp2
    go_ret
    exact ⟨rfl, Below.refl _ _⟩
  · have hb := w0 (by omega)
    clear w0
    obtain ⟨i0, hi, hz0, hz1, hz2⟩ := info_parts infoTok
    go_enter Tryd.func4, Tryd.ntmps4
    go_wp2_with (first | (go_at_call 9; go_in) | fail)
    refine (Squeezed_draw _ a0 len0 cap0 hb).mono ?_
    rintro e w1 ⟨v, ts, rfl, hv, hfd, hn, hB⟩
    have HF := Lib.hid (show ∀ x ∈ ts, TokSm x from fun x hx => sm_of_d (hfd x hx))
    have HV := Lib.hid (show ∀ w', Below w1.heap.size w1 w' → TokVal w' v ts from fun w' h => hv.on h)
    obtain ⟨ad, cp, rfl, hform⟩ := TokVal.form hv
    have HR := Lib.hid hform
    clear hb hfd hform
    obtain ⟨n, en⟩ : ∃ n, ts.length = n := ⟨_, rfl⟩
    have HN := Lib.hid en
    rw [en] at hn HV hv ⊢
    clear en
    go_wp2_with fail
    refine (SqI_val ts _ _ (HP.out.on hB) hv HF.out (by rw [HN.out]; omega)).mono ?_
    rintro e w2 ⟨vx, rfl, hx2, g2⟩
    have hB2 := hB.trans (g2.mono hB.size)
    have hlen := squeezed_len ts
    rw [HN.out] at hlen
    obtain ⟨ax, cx, rfl⟩ := toks_form hx2
    go_wp2_with fail
    refine (SqS_val ts _ _ (HV.out _ g2) (fun x hx => fit_of_sm (HF.out x hx)) (by rw [HN.out]; omega)).mono ?_
    rintro e w3 ⟨vy, rfl, hy3, g3⟩
    have hB3 := hB2.trans (g3.mono hB2.size)
    have hx3 := hx2.on g3
    have g13 := g2.trans (g3.mono g2.size)
    go_wp2_with fail
    refine (like_same (squeezed ts) _ _ _ hx3.val hy3.val (by omega)).mono ?_
    rintro e w4 ⟨rfl, g4⟩
    have hx4 := hx3.on g4
    have hB4 := hB3.trans (g4.mono hB3.size)
    have g14 := g13.trans (g4.mono g13.size)
    clear hx2 hx3 hy3 g2 g3 g4 g13 hB2 hB3 hv
    obtain ⟨xs, exs⟩ : ∃ xs, squeezed ts = xs := ⟨_, rfl⟩
    rw [exs] at hx4 hlen ⊢
    have HX := Lib.hid exs
    obtain ⟨m, em⟩ : ∃ m, xs.length = m := ⟨_, rfl⟩
    have HM := Lib.hid em
    rw [em] at hx4 hlen ⊢
    clear exs em
    go_wp2_with fail
    go_loopg [5] n (fun kx s5 wr => ∃ i : Nat, s5 = .int .i64 (i : Int) ∧ kx + i = n ∧ Hid (∀ j x, j < i → ts[j]? = some x → tokOk x = true) ∧ Below w4.heap.size w4 wr)
    case atStart => exact ⟨0, rfl, by omega, Lib.hid fun j x hj => absurd hj (Nat.not_lt_zero _), Below.refl _ _⟩
    case round =>
      obtain ⟨i, rfl, hk, I, hW⟩ := hrel
      by_cases hlt : i < n
      · have hlt' : (i : Int) < (n : Int) := by omega
        have i0' : (0 : Int) ≤ (i : Int) := by omega
        obtain ⟨g, rfl, hrow⟩ := HR.out (fun e => by have := HN.out; rw [e] at this; simp at this; omega)
        obtain ⟨x, hx⟩ : ∃ x, ts[i]? = some x := ⟨_, List.getElem?_eq_getElem (by rw [HN.out]; exact hlt)⟩
        obtain ⟨f0, f1, f2⟩ := HF.out x (List.mem_of_getElem? hx)
        have hr4 := (hrow.on g14).on hW
        obtain ⟨c0, c1, c2⟩ := hr4.cells i x hx
        have hroom := hr4.room
        rw [HN.out] at hroom
        have hnc : (n : Int) ≤ (cp : Int) := by omega
        have HT := Lib.hid (fun w' => TokenOk_spec x w' f0 f1 (by omega))
        have HXi := Lib.hid hx
        unfold tokV at HT
        clear hr4 hrow hx
        cases hok : tokOk x
        · have hm0 : m = 0 := by
            have hall : ts.all tokOk = false := by
              rw [Bool.eq_false_iff]
              intro ha
              have := List.all_eq_true.1 ha x (List.mem_of_getElem? HXi.out)
              rw [hok] at this; cases this
            have hsq : squeezed ts = [] := by unfold squeezed; rw [if_neg (by rw [hall]; decide)]
            rw [← HM.out, ← HX.out, hsq]; rfl
          subst hm0
          rw [hok] at HT
          go_wp2_with (go_at_call 19; refine (HT.out _).mono ?_; rintro e w5 ⟨rfl, g5⟩)
          go_ret
          have hW5 := hW.trans (g5.mono hW.size)
          exact ⟨rfl, hB4.trans (hW5.mono hB4.size)⟩
        · have HI := Lib.hid (show ∀ j y, j < i + 1 → ts[j]? = some y → tokOk y = true from fun j y hj hy => by
            rcases Nat.lt_or_eq_of_le (Nat.le_of_lt_succ hj) with h | h
            · exact I.out j y h hy
            · rw [h, HXi.out] at hy; cases hy; exact hok)
          rw [hok] at HT
          go_wp2_with (go_at_call 19; refine (HT.out _).mono ?_; rintro e w5 ⟨rfl, g5⟩)
          go_roundg (n - (i + 1))
          case measure => omega
          case rel => exact ⟨i + 1, by go_num, by omega, HI, hW.trans (g5.mono hW.size)⟩
      · have hlt' : ¬ (i : Int) < (n : Int) := by omega
        have HA := Lib.hid (show ts.all tokOk = true by
          rw [List.all_eq_true]
          intro x hx
          obtain ⟨j, hj, e⟩ := List.getElem_of_mem hx
          exact I.out j x (by rw [HN.out] at hj; omega) (by rw [List.getElem?_eq_getElem hj, e]))
        have hx5 := Toks.on hx4 hW
        have hB5 := hB4.trans (hW.mono hB4.size)
        have g15 := g14.trans (hW.mono g14.size)
        clear hx4 hB4 g14 hW I hlt hk
        obtain ⟨wA, rfl⟩ : ∃ wA, wA = wr := ⟨_, rfl⟩
        have ha0 : Toks (wA.alloc (.cells #[] 29)) (.slice (some ⟨wA.heap.size, 0, none⟩) 0 0) wA.heap.size [] := World.ownsRow_lit wA #[] 0 (Nat.le_refl _) (by decide) rfl
        have hb1 : Toks ((wA.alloc (.cells #[] 29)).alloc (.cells #[] 29)) (.slice (some ⟨(wA.alloc (.cells #[] 29)).heap.size, 0, none⟩) 0 0) wA.heap.size [] := World.ownsRow_lit (wA.alloc (.cells #[] 29)) #[] 0 (by simp) (by decide) rfl
        rw [World.size_alloc] at hb1
        have ha1 : Toks ((wA.alloc (.cells #[] 29)).alloc (.cells #[] 29)) (.slice (some ⟨wA.heap.size, 0, none⟩) 0 0) wA.heap.size [] := World.ownsRow.alloc ha0 _
        have hW1 : Below wA.heap.size wA ((wA.alloc (.cells #[] 29)).alloc (.cells #[] 29)) := ((Below.refl _ _).alloc (Nat.le_refl _) _).alloc (by simp) _
        clear ha0
        go_wp2_with fail
        clear hlt'
        generalize (wA.alloc (.cells #[] 29)).alloc (.cells #[] 29) = W1 at *
        obtain ⟨B, hBB⟩ : ∃ B, wA.heap.size = B := ⟨_, rfl⟩
        have HB := Lib.hid hBB
        rw [hBB] at hb1 ha1 hW1 ⊢
        clear hBB
        go_loopg [6, 8] n (fun kx s6 s8 wq => ∃ (i : Nat) (done : List P5.Tok) (p6 : Value), p6 = s6 ∧ s8 = .int .i64 (i : Int) ∧ kx + i = n ∧ Toks wq s6 B done ∧ Hid (words (ts.take i) = done) ∧ Toks wq (.slice (some ⟨B + 1, 0, none⟩) 0 0) B [] ∧ Hid (s6.ownBlock ≠ some (B + 1)) ∧ Below B wA wq)
        case atStart => exact ⟨0, [], _, rfl, rfl, by omega, ha1, Lib.hid rfl, hb1, Lib.hid (by simp [Value.ownBlock]), hW1⟩
        case round =>
          obtain ⟨i, done, p6, rfl, rfl, hk, hown, I, hbq, hap, hWq⟩ := hrel
          clear ha1 hb1 hW1
          have hWq' : Below wA.heap.size wA wr := by rw [HB.out]; exact hWq
          have hfew : done.length ≤ n := by
            rw [← I.out]
            refine Nat.le_trans (List.length_filter_le _ _) ?_
            rw [List.length_take, HN.out]; omega
          by_cases hlt : i < n
          · have hlt' : (i : Int) < (n : Int) := by omega
            have i0' : (0 : Int) ≤ (i : Int) := by omega
            obtain ⟨g, rfl, hrow⟩ := HR.out (fun e => by have := HN.out; rw [e] at this; simp at this; omega)
            obtain ⟨x, hx⟩ : ∃ x, ts[i]? = some x := ⟨_, List.getElem?_eq_getElem (by rw [HN.out]; exact hlt)⟩
            have hr4 := (hrow.on g15).on hWq'
            obtain ⟨c0, c1, c2⟩ := hr4.cells i x hx
            have hroom := hr4.room
            rw [HN.out] at hroom
            have hnc : (n : Int) ≤ (cp : Int) := by omega
            have HI := Lib.hid (words_take hx)
            rw [I.out] at HI
            clear hr4 hrow hx I
            cases hsp : isSp x
            · rw [hsp] at HI
              have h5 : (x.k == 5) = false := hsp
              obtain ⟨k, t, n'⟩ := x
              dsimp only at c0 c1 c2 h5
              clear hsp
              go_wp2_with (at_builtin; refine wpList_append_own_at _ rfl _ _ 25 rfl B 29 i0 _ 3 32 Tryd.underlying25 hi hz0 hz1 hz2 rfl (by decide) _ done.length (toksC done) rfl (World.ownsRow.alloc hown _) ⟨wr.heap.size, 0, none⟩ 1 1 [.int .i64 k, .string ⟨t.toArray⟩, .int .i64 n'] rfl rfl (cell_three_new _ _ _ _ _) (by simp [Value.oneCell']) (by simp [maxLen]; omega) (by omega) (by have := hWq.size; have := HB.out; simp; omega) ?_; intro v4 w4 hown4 hgrow4 _ hat4)
              have hmore : Toks w4 v4 B (done ++ [⟨k, t, n'⟩]) := toks_more hown4
              have hbk : Toks w4 (.slice (some ⟨B + 1, 0, none⟩) 0 0) B [] := own_apart (World.ownsRow.alloc hbq _) hgrow4 (Or.inl (Ne.symm hap.out))
              have hlb := (World.ownsRow.lt hbq (B + 1) rfl).2
              have hap4 := Lib.hid (show v4.ownBlock ≠ some (B + 1) by
                rcases hat4 with h | h
                · rw [h]; exact hap.out
                · rw [h]; simp; omega)
              go_roundg (n - (i + 1))
              case measure => omega
              case rel => exact ⟨i + 1, done ++ [⟨k, t, n'⟩], _, rfl, by go_num, by omega, hmore, HI, hbk, hap4, (hWq.alloc (by have := hWq.size; have := HB.out; omega) _).grown hgrow4 (by have := hWq.size; have := HB.out; simp; omega) (fun k hk => (World.ownsRow.lt hown k hk).1)⟩
            · rw [hsp, if_pos rfl, List.append_nil] at HI
              have h5 : (x.k == 5) = true := hsp
              clear hsp
              go_wp2_with fail
              go_roundg (n - (i + 1))
              case measure => omega
              case rel => exact ⟨i + 1, done, _, rfl, by go_num, by omega, hown, HI, hbq, hap, hWq⟩
          · have hlt' : ¬ (i : Int) < (n : Int) := by omega
            have HD := Lib.hid (show words ts = done by rw [← I.out, List.take_of_length_le (by rw [HN.out]; omega)])
            clear I hlt hk
            go_wp2_with fail
            clear hlt'
            have hxv := Toks.val hx5
            have HX1 := Lib.hid (TokVal.form hxv)
            have HX5 := Lib.hid hx5
            clear hx5 hxv
            obtain ⟨wB, rfl⟩ : ∃ wB, wB = wr := ⟨_, rfl⟩
            go_loopg [7, 9] m (fun kx s7 s9 wq => ∃ (i : Nat) (dn : List P5.Tok), s9 = .int .i64 (i : Int) ∧ kx + i = m ∧ Toks wq s7 B dn ∧ Hid (words (xs.take i) = dn) ∧ Toks wq p6 B done ∧ Hid (p6.ownBlock ≠ s7.ownBlock) ∧ Below B wA wq)
            case atStart => exact ⟨0, [], rfl, by omega, hbq, Lib.hid rfl, hown, hap, hWq⟩
            case round =>
              clear hbq hown hap hWq hWq' hfew
              obtain ⟨i, dn, rfl, hk, hown2, I, hown1, hap, hWq⟩ := hrel
              have hWq' : Below wA.heap.size wA wr := by rw [HB.out]; exact hWq
              have hfew : dn.length ≤ m := by
                rw [← I.out]
                refine Nat.le_trans (List.length_filter_le _ _) ?_
                rw [List.length_take, HM.out]; omega
              by_cases hlt : i < m
              · have hlt' : (i : Int) < (m : Int) := by omega
                have i0' : (0 : Int) ≤ (i : Int) := by omega
                obtain ⟨ax', cx', hvx, hxf⟩ := HX1.out
                obtain ⟨g, eg, hrow⟩ := hxf (fun e => by have := HM.out; rw [e] at this; simp at this; omega)
                simp only [Value.slice.injEq] at hvx
                obtain ⟨rfl, hmm, rfl⟩ := hvx
                clear hmm
                subst eg
                obtain ⟨x, hx⟩ : ∃ x, xs[i]? = some x := ⟨_, List.getElem?_eq_getElem (by rw [HM.out]; exact hlt)⟩
                have hr4 := hrow.on hWq'
                obtain ⟨c0, c1, c2⟩ := hr4.cells i x hx
                have hroom := hr4.room
                rw [HM.out] at hroom
                have hnc : (m : Int) ≤ (cx : Int) := by omega
                have HI := Lib.hid (words_take hx)
                rw [I.out] at HI
                have HXi := Lib.hid hx
                clear hx I hxf
                cases hsp : isSp x
                · rw [hsp] at HI
                  have h5 : (x.k == 5) = false := hsp
                  obtain ⟨k, t, n'⟩ := x
                  dsimp only at c0 c1 c2 h5
                  clear hsp hr4 hrow
                  go_wp2_with (at_builtin; refine wpList_append_own_at _ rfl _ _ 25 rfl B 29 i0 _ 3 32 Tryd.underlying25 hi hz0 hz1 hz2 rfl (by decide) _ dn.length (toksC dn) rfl (World.ownsRow.alloc hown2 _) ⟨wr.heap.size, 0, none⟩ 1 1 [.int .i64 k, .string ⟨t.toArray⟩, .int .i64 n'] rfl rfl (cell_three_new _ _ _ _ _) (by simp [Value.oneCell']) (by simp [maxLen]; omega) (by omega) (by have := hWq.size; have := HB.out; simp; omega) ?_; intro v4 w4 hown4 hgrow4 _ hat4)
                  have hmore : Toks w4 v4 B (dn ++ [⟨k, t, n'⟩]) := toks_more hown4
                  have hak : Toks w4 p6 B done := own_apart (World.ownsRow.alloc hown1 _) hgrow4 (Or.inl hap.out)
                  have hap4 := Lib.hid (show p6.ownBlock ≠ v4.ownBlock by
                    rcases hat4 with h | h
                    · rw [h]; exact hap.out
                    · rw [h]
                      intro e
                      have := (World.ownsRow.lt hown1 _ e).2
                      simp at this
                      omega)
                  go_roundg (m - (i + 1))
                  case measure => omega
                  case rel => exact ⟨i + 1, dn ++ [⟨k, t, n'⟩], by go_num, by omega, hmore, HI, hak, hap4, (hWq.alloc (by have := hWq.size; have := HB.out; omega) _).grown hgrow4 (by have := hWq.size; have := HB.out; simp; omega) (fun k hk => (World.ownsRow.lt hown2 k hk).1)⟩
                · rw [hsp, if_pos rfl, List.append_nil] at HI
                  have h5 : (x.k == 5) = true := hsp
                  have hss := squeezed_space (ts := ts) HA.out (i := i) (x := x) (by rw [HX.out]; exact HXi.out) hsp
                  rw [HX.out, HM.out] at hss
                  obtain ⟨⟨j, y, ei, hy, hysp⟩, hend⟩ := hss
                  subst ei
                  obtain ⟨d0, _, _⟩ := hr4.cells j y hy
                  have h5y : (y.k == 5) = false := hysp
                  obtain ⟨I1, eI⟩ : ∃ I1 : Nat, j + 1 = I1 := ⟨_, rfl⟩
                  rw [eI] at c0 c1 c2 hlt' i0' hk hend HI ⊢
                  have hI0 : ((I1 : Int) == 0) = false := by rw [beq_eq_false_iff_ne]; omega
                  obtain ⟨q, eq⟩ : ∃ q, m = q + 1 := ⟨m - 1, by omega⟩
                  have hqw : IntKind.i64.wrap ((m : Int) - 1) = (q : Int) := by rw [IntKind.wrap_i64]; omega
                  have hIq : ((I1 : Int) == (q : Int)) = false := by rw [beq_eq_false_iff_ne]; omega
                  have hjw : IntKind.i64.wrap ((I1 : Int) - 1) = (j : Int) := by rw [IntKind.wrap_i64]; omega
                  have hj0 : (0 : Int) ≤ (j : Int) := by omega
                  have hjm : (j : Int) < (m : Int) := by omega
                  clear hsp hysp hr4 hrow hy eq hlt
                  go_wp2_with fail
                  go_roundg (m - (I1 + 1))
                  case measure => omega
                  case rel => exact ⟨I1 + 1, dn, by go_num, by omega, hown2, HI, hown1, hap, hWq⟩
              · have hlt' : ¬ (i : Int) < (m : Int) := by omega
                have HD2 := Lib.hid (show dn = words ts by rw [← words_squeezed HA.out, HX.out, ← I.out, List.take_of_length_le (by rw [HM.out]; omega)])
                clear I hlt hk
                have hsame : done = dn := by rw [HD2.out, HD.out]
                subst hsame
                go_wp2_with fail
                clear hlt'
                refine (like_same done _ _ _ (Toks.val hown1) (Toks.val hown2) (by omega)).mono ?_
                rintro e w6 ⟨rfl, g6⟩
                have hW6 := hWq'.trans (g6.mono hWq'.size)
                have hx6 := HX5.out.on hW6
                have hB6 := hB5.trans (hW6.mono hB5.size)
                clear hown1 hown2 hap hWq hWq' g6
                go_wp2_with fail
                have hxv6 := Toks.val hx6
                have hxv7 := hxv6
                refine (SqI_val xs _ _ (HP.out.on hB6) hxv6 (fun x hx => HF.out x (mem_squeezed (by rw [HX.out]; exact hx))) (by rw [HM.out]; omega)).mono ?_
                rintro e w7 ⟨vz, rfl, hz7, g7⟩
                have hsq : squeezed xs = xs := by rw [← HX.out]; exact squeezed_again HA.out
                rw [hsq] at hz7
                have hB7 := hB6.trans (g7.mono hB6.size)
                obtain ⟨az, cz, rfl⟩ := toks_form hz7
                clear hsq
                go_wp2_with fail
                refine (like_same xs _ _ _ (Toks.val hz7) (hxv7.on g7) (by rw [HM.out]; omega)).mono ?_
                rintro e w8 ⟨rfl, g8⟩
                go_wp2_with fail
                go_ret
                exact ⟨rfl, hB7.trans (g8.mono hB7.size)⟩

set_option maxRecDepth 100000 in
theorem lifted (os : Os) (started : os.Started) (H : Type) (enc : TypeId × Value → H) :
    ReturnsInHanded {} Tryd.checked os 4 .any (fun w args => (Rows.fnSqueezedSpec.pre enc Tryd.prog Tryd.f4 Rows.fnSqueezedRow.domain false w args ∧ laidMetH Tryd.prog Rows.fnSqueezedRow.laid w) ∧ sizedMet enc Tryd.prog Tryd.f4 (OpenSpec.ofChange Rows.fnSqueezedSpec) false w args)
      (Rows.fnSqueezedSpec.post enc Tryd.prog Tryd.f4 false true false false) := by
  refine returnsInHanded_of_calls (C := Tryd.checked) own started (by kernel_rfl)
    (ChangeSpec.witness_shaped (enc := enc) (C := Tryd.checked) (os := os) (X := fun w _ => laidMetH Tryd.prog Rows.fnSqueezedRow.laid w) false (World.laidAll Tryd.prog os Rows.fnSqueezedRow.laid) #[.slice none 0 0] 8 (World.laidAll_os _ _ _)
      (World.shaped_of_ZipB (by kernel_rfl) (by kernel_rfl)) (by kernel_rfl) (by kernel_rfl) (by kernel_rfl)
      (by rw [MakeChecks.laidMetH_plain _ _ _ (by kernel_rfl)]; exact laidMet_laidAll _ (by kernel_rfl) (by kernel_rfl))) ?_
  intro w0 tape i _ hsh0 _ hok hpre _
  obtain ⟨_, _, _, fn', hfn', _, _, _, _, hval00⟩ := hok
  obtain rfl : fn' = Tryd.f4 := Option.some.inj (hfn'.symm.trans Tryd.func4)
  obtain ⟨⟨⟨ds, gs, before, hw, _⟩, hx⟩, _⟩ := hpre
  have hW0 := DataW.Whole.of_heap (w' := w0.forCall tape i) (by rfl) hw
  have hL0 : laidMetH Tryd.prog Rows.fnSqueezedRow.laid (w0.forCall tape i) := hx.of_heap (by rfl)
  suffices hgo : ∀ (W : World) (base : Nat) (args : Array Value), (∀ (j : Nat) t v, Tryd.f4.params[j]? = some t → args[j]? = some v → Value.okWide Tryd.prog W .any base t v) →
      DataW.Whole enc Tryd.prog Tryd.f4.params.toList Rows.fnSqueezedSpec.vars false W args.toList ds gs before → laidMetH Tryd.prog Rows.fnSqueezedRow.laid W → W.ShapedOpen Tryd.prog →
      Calls Tryd.prog 4 args W fun e W' => ∃ v, e = .returned v ∧ Rows.fnSqueezedSpec.post enc Tryd.prog Tryd.f4 false true false false W args v W' by
    refine (hgo _ _ _ hval00 hW0 hL0 hsh0).mono fun e W' ⟨v, he, hp⟩ => ?_
    subst he
    exact ChangeSpec.post_blind hp
  clear hsh0 hval00 hW0 hL0 hx hw hfn'
  intro W base args hval0 hW hL hsh
  have hval : ∀ (j : Nat) t v, Tryd.f4.params[j]? = some t → args[j]? = some v → Value.okWide Tryd.prog W .any base t v := hval0
  have hW' := hW
  obtain ⟨p, q, hA0, hV, rfl, hfz, hnd⟩ := hW
  have hA : DataW.TrodAll enc Tryd.prog W 0 (fun _ => true) true Tryd.f4.params.toList args.toList ds p := hA0
  rw [Tryd.params4] at hA hval
  obtain ⟨v0, vs0, d0, ds0, p0, q0, hargs, rfl, rfl, h0, r0⟩ := trodAll_cons hA
  obtain ⟨rfl, rfl, rfl⟩ := trodAll_nil r0
  obtain rfl : args = #[v0] := by cases args; simp_all
  obtain ⟨rfl, rfl⟩ := trodVars_none hV
  have k0 := h0
  have lt0 : ∀ x ∈ p0, x.block < W.heap.size := by obtain ⟨m, hm⟩ := k0; exact DataW.trod_lt m _ _ _ hm
  obtain ⟨a0, len0, cap0, rfl, w0⟩ := open_bytes (hval 0 22 v0 rfl rfl) h0
  refine (walk a0 len0 cap0 W w0 (laid_squeezed hL)).mono fun e W' ⟨he, bel⟩ => ?_
  subst he
  exact ⟨_, rfl, _, _, _, [], _, [], hW', trodAll_mk1 (shut_bool Tryd.underlying4 _), (trodAll_cons_mk (Below.trod laidOut (by kernel_rfl) (of_decide_eq_true (by kernel_rfl)) k0 bel lt0) trodAll_mk0), rfl, bel.frame _, fun h => by cases h⟩

theorem over : Rows.fnSqueezedRow.holds Tryd.pinned (OpenSpec.ofChange Rows.fnSqueezedSpec) :=
  OpenClaim.holds_of_wide 4 Tryd.f4 rfl rfl rfl rfl rfl rfl rfl ⟨rfl, rfl, rfl, rfl, rfl⟩ rfl rfl rfl rfl rfl (by kernel_rfl) Tryd.func4 (by kernel_rfl)
    (of_decide_eq_true (by kernel_rfl)) (by unfold Func.isWrapper; first | (rw [if_pos (by decide +kernel)]; kernel_rfl) | (rw [if_neg (by decide +kernel)]; exact ⟨rfl, rfl⟩))
    (fun os started H enc _ => lifted os started H enc)

theorem proved : Rows.FnSqueezedCardSaid :=
  Claim7.holds_tied_plain_at .later [] [.data, .data, .data, .sentinel, .sentinel] true (true, "e6b3d22f4928ef2684de4cbbd34100187f2a32140dcc95ee0039e0cc9b4c5a61") true over (fun _ h => by cases h) (by kernel_rfl) (fun _ h => by cases h) fnSqueezed_row_tie rfl ⟨rfl, rfl⟩ (by kernel_rfl) rfl
    (fun f fn hf hfn => by
      obtain rfl : f = 4 := Option.some.inj ((show Tryd.prog.funcNamed "loop.example/g00521/laws.FnSqueezed" = some 4 by kernel_rfl).symm.trans hf) |>.symm
      obtain rfl : fn = Tryd.f4 := (Option.some.inj (Tryd.func4.symm.trans hfn)).symm
      exact ⟨by kernel_rfl, fun j t ht => by
        have hm : t ∈ Tryd.f4.params.toList := by simpa using Array.mem_of_getElem? ht
        have hall : (Tryd.f4.params.toList.all fun u => !Tryd.prog.wantsStandIn u) = true := by kernel_rfl
        exact (show Tryd.prog.wantsStandIn t = false by simpa using List.all_eq_true.1 hall t hm)⟩)
    (by kernel_rfl)
#print axioms proved
end Go.Proofs.YtniemiofffecjaaDoor.fnSqueezed
