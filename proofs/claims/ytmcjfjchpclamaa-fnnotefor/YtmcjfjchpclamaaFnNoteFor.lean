/- Proved: for every slice of bytes FnNoteFor answers true: of what the bytes draw, the note for a look is the last strong one, or where there is none the last one, or none. No condition. -/
import Derived.Test.YtmcjfjchpclamaaBase9s
import Derived.Test.YtmcjfjchpclamaaDraw9
import Derived.Deep.RegionHeld3
import Derived.Test.YtmcjfjchpclamaaRows
import Derived.WalkKit
import Derived.ProofKit
import Derived.OpenShut
import Derived.ShutString
import Derived.ChangeOld
import Derived.Below
namespace Go.Proofs.Ytmcjfjchpclamaa.fnNoteFor
open Go.ChangeShapes Go.WideShapes Go.ChangeAt Go.RowKit
open Go.ChangeMaps (open_string shut_string)
set_option linter.unusedVariables false

theorem own : ownKnob Try.prog.godebug = none := by kernel_rfl
theorem laidOut : laidOutB Try.prog = true := by kernel_rfl

open Go.Proofs.Ytmcjfjchpclamaa.P1 Go.Proofs.Ytmcjfjchpclamaa.B1 Go.Proofs.Ytmcjfjchpclamaa.B2 Go.Proofs.Ytmcjfjchpclamaa.T1 Go.Proofs.Ytmcjfjchpclamaa.BT Go.Proofs.Ytmcjfjchpclamaa.P5 Go.Proofs.Ytmcjfjchpclamaa.P6 Go.Proofs.Ytmcjfjchpclamaa.P8 Go.Proofs.Ytmcjfjchpclamaa.P9 Go.Proofs.Ytmcjfjchpclamaa.B5 Go.Proofs.Ytmcjfjchpclamaa.B6 Go.Proofs.Ytmcjfjchpclamaa.B9 Go.Proofs.Ytmcjfjchpclamaa.W8 Go.Proofs.Ytmcjfjchpclamaa.RC Go.Proofs.Ytmcjfjchpclamaa.D1 Go.Proofs.Ytmcjfjchpclamaa.RI
theorem eq_note_self (n : No) (w : World) : (Op.equalIn 10000 30 (noV n) (noV n)).run Try.prog w = .ok true w := by
  have u3 := Try.underlying2
  have a3 := Try.isAgg2
  have z3 := Try.sizeOf2
  have u9 := Try.underlying9
  have a9 := Try.isAgg9
  have z9 := Try.sizeOf9
  have ub := Try.underlying4
  have ab := Try.isAgg4
  have zb := Try.sizeOf4
  have uv := Try.underlying28
  have av := Try.isAgg28
  have zv := Try.sizeOf28
  obtain ⟨l, ⟨k, n, r, g, b, c, t⟩, s⟩ := n
  unfold noV noL
  go_simp

/-- A place as Go tells it: -1 where there is none. -/
def placeI (q : Option Nat) : Int := match q with
  | none => -1
  | some i => (i : Int)

theorem no_load_blk {w : World} {b : Nat} {n : No} (h : LBlk w b (noL n)) : (loadVar 30 ⟨b, 0, none⟩).run Try.prog w = .ok (noV n) w := load_blk h no_wide

/-- What is kept while the law looks for the last ones. -/
structure NfB (w : World) (b g off : Nat) (y : No) (ns : List No) (W : World) : Prop where
  y : LBlk W b (noL y)
  at_ : At 9 W g off (noRs ns)
  b : Below w.heap.size w W

theorem NfB.drew {w W : World} {b g off : Nat} {y : No} {ns : List No} (h : NfB w b g off y ns W) : NfB w b g off y ns W.drew := ⟨h.y, ⟨h.at_.cells, h.at_.lt⟩, ⟨h.b.os, h.b.tape, h.b.output, h.b.size, h.b.block⟩⟩
set_option maxRecDepth 100000 in
set_option maxHeartbeats 8000000 in
theorem walk (A0 : Option Addr) (len0 cap0 : Nat) (w : World) (w0 : len0 ≤ 4096 → Bytes w w.heap.size A0 len0) :
    Calls Try.prog 3 #[.slice A0 len0 cap0] w (Ans (.bool true) w) := by
  by_cases hbig : 4096 < len0
  · go_enter Try.func3, Try.ntmps3
    go_wp2
    go_ret
    exact ⟨rfl, Below.refl _ _⟩
  · have hb := w0 (by omega)
    clear w0
    go_enter Try.func3, Try.ntmps3
    go_wp2_with (first | (go_at_call 5; go_in) | fail)
    refine (D9.NoteFor_draw _ A0 len0 cap0 hb).mono ?_
    rintro e w1 ⟨v, ns, l, rfl, hv, hnd, hlen, g1⟩
    obtain ⟨a, cap, rfl, hnc, hcap, HA⟩ := hv.form
    obtain ⟨hfor, hsome⟩ := forN_is ns l
    obtain ⟨n, hn⟩ : ∃ n, ns.length = n := ⟨_, rfl⟩
    have HI := Lib.hid (NoteFor_impl ns l _ w1 hv (by omega))
    have HS := Lib.hid (fun w' (hb : Below w1.heap.size w1 w') => NoteFor_spec ns l _ w' (hv.on hb) (by omega))
    unfold forV at HI HS
    obtain ⟨y, ey⟩ : ∃ y, noVal (forN ns l) = y := ⟨_, rfl⟩
    obtain ⟨I, eI⟩ : ∃ I, (forN ns l).isSome = I := ⟨_, rfl⟩
    rw [ey, eI] at HI HS
    rw [hn] at HI HS hnc hlen ⊢
    have HN := Lib.hid hn
    have hnc' : (n : Int) ≤ (cap : Int) := by omega
    have hlen' : (n : Int) ≤ 13 := by omega
    have HY := Lib.hid ey
    have HII := Lib.hid eI
    have HFOR := Lib.hid hfor
    replace HA := Lib.hid HA
    have hself : ∀ w', (Op.equalIn 10000 30 (.agg #[.int .i64 y.l, .int .i64 y.v.k, .int .i64 y.v.n, .int .i64 y.v.r, .int .i64 y.v.g, .int .i64 y.v.b, .int .i64 y.v.c, .string ⟨y.v.w.toArray⟩, .bool y.s]) (.agg #[.int .i64 y.l, .int .i64 y.v.k, .int .i64 y.v.n, .int .i64 y.v.r, .int .i64 y.v.g, .int .i64 y.v.b, .int .i64 y.v.c, .string ⟨y.v.w.toArray⟩, .bool y.s])).run Try.prog w' = .ok true w' := fun w' => eq_note_self y w'
    clear ey eI hfor hsome hn hnd hcap hv hb
    go_wp2_with fail
    refine HI.out.mono ?_
    rintro e w2 ⟨rfl, g2⟩
    obtain ⟨w3, hst3, hl3, g3⟩ := no_laid w2 y
    have HST3 := Lib.hid hst3
    have hb3 : Below w1.heap.size w1 w3 := g2.trans (g3.mono g2.size)
    clear hst3 HI
    go_wp2_with ((with_reducible refine wp_store_at HST3.out ?_ ?_); exact And.intro rfl (And.intro rfl (And.intro rfl rfl)))
    refine (HS.out _ hb3).mono ?_
    rintro e w4 ⟨rfl, g4⟩
    have hl4 := hl3.below g4
    have hb4 := hb3.trans (g4.mono hb3.size)
    obtain ⟨w5, hst5, hl5, g5⟩ := no_laid w4 y
    have HST5 := Lib.hid hst5
    have hy5 := hl4.below g5
    have hb5 := hb4.trans (g5.mono hb4.size)
    have HLa := Lib.hid (no_load_blk hy5)
    have HLb := Lib.hid (no_load_blk hl5)
    have hB5 := g1.trans (hb5.mono g1.size)
    clear hst5 HS HST3 hl3 hl4 g3 g4 g5 hb3 hb4 g2
    go_upto_region 6 with ((with_reducible refine wp_store_at HST5.out ?_ ?_); exact And.intro rfl (And.intro rfl (And.intro rfl rfl)))
    obtain ⟨by_, eby⟩ : ∃ q, w2.heap.size = q := ⟨_, rfl⟩
    obtain ⟨bx, ebx⟩ : ∃ q, w4.heap.size = q := ⟨_, rfl⟩
    rw [eby, ebx]
    rw [eby] at HLa hy5
    rw [ebx] at HLb
    clear eby ebx
    refine RI.region_det1 [.bool I, .bool I, .bool false, .bool false, noV y, noV y, .bool false, .bool false] (fun W => W = w5) (none :: none :: none :: none :: none :: none :: none :: none :: none :: none :: none :: none :: none :: none :: none :: none :: none :: none :: none :: none :: none :: none :: none :: none :: none :: none :: none :: none :: none :: none :: none :: some 0 :: some 1 :: some 2 :: some 3 :: some 4 :: some 5 :: some 6 :: some 7 :: none :: none :: none :: none :: none :: none :: none :: none :: none :: none :: none :: none :: none :: none :: none :: none :: none :: none :: none :: none :: none :: none :: none :: none :: none :: none :: none :: none :: none :: none :: none :: none :: none :: none :: none :: none :: none :: none :: none :: none :: none :: none :: none :: none :: none :: none :: none :: none :: none :: []) (by kernel_rfl) (by kernel_rfl) (rfl) ?_ ?_
    · intro i hi A W hB hA
      have hi2 : i < 8 := hi
      have hcase : i = 0 ∨ i = 1 ∨ i = 2 ∨ i = 3 ∨ i = 4 ∨ i = 5 ∨ i = 6 ∨ i = 7 := by omega
      clear hi hi2
      rcases hcase with rfl | rfl | rfl | rfl | rfl | rfl | rfl | rfl
      · have s6 : A.tmps[6]?.getD undef = .bool I := (hA.st 6 (by kernel_rfl)).trans rfl
        exact wpOp_of rfl rfl (wp_value (v := .bool I) (W' := W) (by simp [execOp, Act.eval, s6, go_sem]) ⟨rfl, hB⟩)
      · have s8 : A.tmps[8]?.getD undef = .bool I := (hA.st 8 (by kernel_rfl)).trans rfl
        exact wpOp_of rfl rfl (wp_value (v := .bool I) (W' := W) (by simp [execOp, Act.eval, s8, go_sem]) ⟨rfl, hB⟩)
      · have s31 : A.tmps[31]?.getD undef = .bool I := hA.on 0 31 (by kernel_rfl) (by kernel_rfl)
        have s32 : A.tmps[32]?.getD undef = .bool I := hA.on 1 32 (by kernel_rfl) (by kernel_rfl)
        exact wpOp_of rfl rfl (wp_value (v := .bool false) (W' := W) (by simp [execOp, Act.eval, s31, s32, go_sem]) ⟨rfl, hB⟩)
      · have s33 : A.tmps[33]?.getD undef = .bool false := hA.on 2 33 (by kernel_rfl) (by kernel_rfl)
        exact wpOp_of rfl rfl (wp_value (v := .bool false) (W' := W) (by simp [execOp, Act.eval, s33, go_sem]) ⟨rfl, hB⟩)
      · have hg : A.tmps[34]?.getD undef = .bool false := hA.on 3 34 (by kernel_rfl) (by kernel_rfl)
        have s5 : A.tmps[5]?.getD undef = .pointer (some ⟨by_, 0, none⟩) := (hA.st 5 (by kernel_rfl)).trans rfl
        exact wpOp_want rfl rfl (by kernel_rfl) hg (wp_value (v := noV y) (W' := W) (by subst hB; exact exec_load rfl (by simpa [Act.eval] using s5) HLa.out) ⟨rfl, hB⟩)
      · have hg : A.tmps[34]?.getD undef = .bool false := hA.on 3 34 (by kernel_rfl) (by kernel_rfl)
        have s7 : A.tmps[7]?.getD undef = .pointer (some ⟨bx, 0, none⟩) := (hA.st 7 (by kernel_rfl)).trans rfl
        exact wpOp_want rfl rfl (by kernel_rfl) hg (wp_value (v := noV y) (W' := W) (by subst hB; exact exec_load rfl (by simpa [Act.eval] using s7) HLb.out) ⟨rfl, hB⟩)
      · have hg : A.tmps[34]?.getD undef = .bool false := hA.on 3 34 (by kernel_rfl) (by kernel_rfl)
        have s35 : A.tmps[35]?.getD undef = noV y := hA.on 4 35 (by kernel_rfl) (by kernel_rfl)
        have s36 : A.tmps[36]?.getD undef = noV y := hA.on 5 36 (by kernel_rfl) (by kernel_rfl)
        exact wpOp_want rfl rfl (by kernel_rfl) hg (wp_value (v := .bool false) (W' := W) (by simp [execOp, Act.eval, s35, s36, go_sem, noV, noL, hself]) ⟨rfl, hB⟩)
      · have s34 : A.tmps[34]?.getD undef = .bool false := hA.on 3 34 (by kernel_rfl) (by kernel_rfl)
        have s37 : A.tmps[37]?.getD undef = .bool false := hA.on 6 37 (by kernel_rfl) (by kernel_rfl)
        exact wpOp_of rfl rfl (wp_value (v := .bool false) (W' := W) (by simp [execOp, Act.eval, s34, s37, go_sem]) ⟨rfl, hB⟩)
    intro wR hR
    simp only [RI.mergeL, List.getElem?_cons_zero, List.getElem?_cons_succ, Option.getD_some]
    rw [hR]
    clear hR wR
    go_wp2_with fail
    go_loopg [9, 10, 11] n (fun kx s9 s10 s11 wr => ∃ (i : Nat) (p q : Option Nat), s9 = .int .i64 (placeI p) ∧ s10 = .int .i64 (placeI q) ∧ s11 = .int .i64 (i : Int) ∧ kx + i = n ∧ Hid (p = lastN (hasL l) (ns.take i)) ∧ Hid (q = lastN (hasS l) (ns.take i)) ∧ wr = w5)
    case atStart => exact ⟨0, none, none, rfl, rfl, rfl, by omega, Lib.hid rfl, Lib.hid rfl, rfl⟩
    case round =>
      obtain ⟨i, p, q, rfl, rfl, rfl, hk, HP, HQ, ew⟩ := hrel
      rw [ew]
      clear ew
      by_cases hlt : i < n
      · have hlt' : (i : Int) < (n : Int) := by omega
        have i0' : (0 : Int) ≤ (i : Int) := by omega
        obtain ⟨x, hx⟩ : ∃ x, ns[i]? = some x := ⟨_, List.getElem?_eq_getElem (by rw [HN.out]; exact hlt)⟩
        obtain ⟨g, off, rfl, hat⟩ := HA.out (by intro e0; rw [e0] at hx; cases hx)
        obtain ⟨c0, c8⟩ := nine_at (hat.on hb5) hx
        have TP := Lib.hid (show lastN (hasL l) (ns.take (i + 1)) = if hasL l x = true then some i else p by rw [lastN_take hx, HP.out])
        have TQ := Lib.hid (show lastN (hasS l) (ns.take (i + 1)) = if hasS l x = true then some i else q by rw [lastN_take hx, HQ.out])
        clear hx hat HLa HLb HST5 hl5 hy5
        by_cases he : x.l = l
        · have he' : (x.l == l) = true := by simpa using he
          have hL : hasL l x = true := he'
          cases hs : x.s
          · rw [hs] at c8
            have hS : hasS l x = false := by unfold hasS; rw [hs]; simp
            have TP' := Lib.hid (show some i = lastN (hasL l) (ns.take (i + 1)) by rw [TP.out, if_pos hL])
            have TQ' := Lib.hid (show q = lastN (hasS l) (ns.take (i + 1)) by rw [TQ.out, if_neg (by rw [hS]; simp)])
            clear TP TQ hL hS hs
            go_wp2_with fail
            go_roundg (n - (i + 1))
            case measure => omega
            case rel => exact ⟨i + 1, some i, q, rfl, rfl, by go_num, by omega, TP', TQ', rfl⟩
          · rw [hs] at c8
            have hS : hasS l x = true := by unfold hasS; rw [hs]; simpa using he
            have TP' := Lib.hid (show some i = lastN (hasL l) (ns.take (i + 1)) by rw [TP.out, if_pos hL])
            have TQ' := Lib.hid (show some i = lastN (hasS l) (ns.take (i + 1)) by rw [TQ.out, if_pos hS])
            clear TP TQ hL hS hs
            go_wp2_with fail
            go_roundg (n - (i + 1))
            case measure => omega
            case rel => exact ⟨i + 1, some i, some i, rfl, rfl, by go_num, by omega, TP', TQ', rfl⟩
        · have he' : (x.l == l) = false := by simpa using he
          have hL : hasL l x = false := he'
          have hS : hasS l x = false := by unfold hasS; rw [he']; rfl
          have TP' := Lib.hid (show p = lastN (hasL l) (ns.take (i + 1)) by rw [TP.out, if_neg (by rw [hL]; simp)])
          have TQ' := Lib.hid (show q = lastN (hasS l) (ns.take (i + 1)) by rw [TQ.out, if_neg (by rw [hS]; simp)])
          clear TP TQ hL hS c8
          go_wp2_with fail
          go_roundg (n - (i + 1))
          case measure => omega
          case rel => exact ⟨i + 1, p, q, rfl, rfl, by go_num, by omega, TP', TQ', rfl⟩
      · have hlt' : ¬ (i : Int) < (n : Int) := by omega
        have hall : ns.take i = ns := List.take_of_length_le (by rw [HN.out]; omega)
        have hp := HP.out
        have hq := HQ.out
        rw [hall] at hp hq
        have hfor := HFOR.out
        rw [← hp, ← hq] at hfor
        cases q with
        | some k =>
          obtain ⟨x, hx, _⟩ := lastN_at hq.symm
          simp only [hx] at hfor
          obtain rfl : y = x := by have := HY.out; rw [hfor] at this; exact this.symm
          obtain rfl : I = true := by have := HII.out; rw [hfor] at this; exact this.symm
          have hkn : k < n := by have := (List.getElem?_eq_some_iff.1 hx).1; rw [HN.out] at this; exact this
          have hk' : (k : Int) < (n : Int) := by omega
          have k0 : (0 : Int) ≤ (k : Int) := by omega
          obtain ⟨g, off, rfl, hat⟩ := HA.out (by intro e0; rw [e0] at hx; cases hx)
          have hNB : NfB w by_ g off y ns w5 := ⟨hy5, hat.on hb5, hB5⟩
          have HLK := Lib.hid (fun (W : World) (h : At 9 W g off (noRs ns)) => no_load h hx)
          generalize placeI p = pz
          unfold placeI
          clear hp hq hfor hx hat HP HQ hall HLa HLb HST5 hl5 hy5 HA
          go_upto_region 18 with fail
          refine RI.region_det (by kernel_rfl) [.bool true, .bool true, noV y, .slice (some ⟨g, off, none⟩) n cap, .int .i64 (k : Int), .pointer (some ⟨g, off + k * 9, none⟩), noV y, .bool true, .bool true, .bool true] (fun W => NfB w by_ g off y ns W) (none :: none :: some 9 :: none :: none :: none :: none :: none :: none :: none :: none :: none :: none :: none :: none :: none :: none :: none :: none :: none :: none :: none :: none :: none :: none :: none :: none :: none :: none :: none :: none :: none :: none :: none :: none :: none :: none :: none :: none :: none :: none :: none :: none :: none :: none :: none :: none :: none :: none :: none :: none :: none :: none :: none :: none :: none :: none :: none :: none :: none :: none :: some 0 :: some 1 :: some 2 :: some 3 :: some 4 :: some 5 :: some 6 :: some 7 :: some 8 :: none :: none :: none :: none :: none :: none :: none :: none :: none :: none :: none :: none :: none :: none :: none :: none :: none :: none :: []) (by kernel_rfl) (by kernel_rfl) (NfB.drew hNB) ?_ ?_
          · intro i hi A W hB hA
            have hi2 : i < 10 := hi
            have hcase : i = 0 ∨ i = 1 ∨ i = 2 ∨ i = 3 ∨ i = 4 ∨ i = 5 ∨ i = 6 ∨ i = 7 ∨ i = 8 ∨ i = 9 := by omega
            clear hi hi2
            rcases hcase with rfl | rfl | rfl | rfl | rfl | rfl | rfl | rfl | rfl | rfl
            · have s6 : A.tmps[6]?.getD undef = .bool true := (hA.st 6 (by kernel_rfl)).trans rfl
              exact wpOp_of rfl rfl (wp_value (v := .bool true) (W' := W) (by simp [execOp, Act.eval, s6, go_sem]) ⟨rfl, hB⟩)
            · have s61 : A.tmps[61]?.getD undef = .bool true := hA.on 0 61 (by kernel_rfl) (by kernel_rfl)
              exact wpOp_of rfl rfl (wp_value (v := .bool true) (W' := W) (by simp [execOp, Act.eval, s61, go_sem]) ⟨rfl, hB⟩)
            · have hg : A.tmps[62]?.getD undef = .bool true := hA.on 1 62 (by kernel_rfl) (by kernel_rfl)
              have s5 : A.tmps[5]?.getD undef = .pointer (some ⟨by_, 0, none⟩) := (hA.st 5 (by kernel_rfl)).trans rfl
              exact wpOp_want rfl rfl (by kernel_rfl) hg (wp_value (v := noV y) (W' := W) (by exact exec_load rfl (by simpa [Act.eval] using s5) (no_load_blk hB.y)) ⟨rfl, hB⟩)
            · have hg : A.tmps[62]?.getD undef = .bool true := hA.on 1 62 (by kernel_rfl) (by kernel_rfl)
              have s3 : A.tmps[3]?.getD undef = .slice (some ⟨g, off, none⟩) n cap := (hA.st 3 (by kernel_rfl)).trans rfl
              exact wpOp_want rfl rfl (by kernel_rfl) hg (wp_value (v := .slice (some ⟨g, off, none⟩) n cap) (W' := W) (by simp [execOp, Act.eval, s3, go_sem]) ⟨rfl, hB⟩)
            · have hg : A.tmps[62]?.getD undef = .bool true := hA.on 1 62 (by kernel_rfl) (by kernel_rfl)
              have s10 : A.tmps[10]?.getD undef = .int .i64 (k : Int) := (hA.st 10 (by kernel_rfl)).trans rfl
              exact wpOp_want rfl rfl (by kernel_rfl) hg (wp_value (v := .int .i64 (k : Int)) (W' := W) (by simp [execOp, Act.eval, s10, go_sem]) ⟨rfl, hB⟩)
            · have hg : A.tmps[62]?.getD undef = .bool true := hA.on 1 62 (by kernel_rfl) (by kernel_rfl)
              have s64 : A.tmps[64]?.getD undef = .slice (some ⟨g, off, none⟩) n cap := hA.on 3 64 (by kernel_rfl) (by kernel_rfl)
              have s65 : A.tmps[65]?.getD undef = .int .i64 (k : Int) := hA.on 4 65 (by kernel_rfl) (by kernel_rfl)
              exact wpOp_want rfl rfl (by kernel_rfl) hg (wp_value (v := .pointer (some ⟨g, off + k * 9, none⟩)) (W' := W) (by simp [execOp, Act.eval, s64, s65, go_sem, hk', k0]) ⟨rfl, hB⟩)
            · have hg : A.tmps[62]?.getD undef = .bool true := hA.on 1 62 (by kernel_rfl) (by kernel_rfl)
              have s66 : A.tmps[66]?.getD undef = .pointer (some ⟨g, off + k * 9, none⟩) := hA.on 5 66 (by kernel_rfl) (by kernel_rfl)
              exact wpOp_want rfl rfl (by kernel_rfl) hg (wp_value (v := noV y) (W' := W) (by exact exec_load rfl (by simpa [Act.eval] using s66) (HLK.out W hB.at_)) ⟨rfl, hB⟩)
            · have hg : A.tmps[62]?.getD undef = .bool true := hA.on 1 62 (by kernel_rfl) (by kernel_rfl)
              have s63 : A.tmps[63]?.getD undef = noV y := hA.on 2 63 (by kernel_rfl) (by kernel_rfl)
              have s67 : A.tmps[67]?.getD undef = noV y := hA.on 6 67 (by kernel_rfl) (by kernel_rfl)
              exact wpOp_want rfl rfl (by kernel_rfl) hg (wp_value (v := .bool true) (W' := W) (by simp [execOp, Act.eval, s63, s67, go_sem, noV, noL, hself]) ⟨rfl, hB⟩)
            · have s62 : A.tmps[62]?.getD undef = .bool true := hA.on 1 62 (by kernel_rfl) (by kernel_rfl)
              have s68 : A.tmps[68]?.getD undef = .bool true := hA.on 7 68 (by kernel_rfl) (by kernel_rfl)
              exact wpOp_of rfl rfl (wp_value (v := .bool true) (W' := W) (by simp [execOp, Act.eval, s62, s68, go_sem]) ⟨rfl, hB⟩)
            · have s69 : A.tmps[69]?.getD undef = .bool true := hA.on 8 69 (by kernel_rfl) (by kernel_rfl)
              exact wpOp_of rfl rfl (wp_value (v := .bool true) (W' := W) (by simp [execOp, Act.eval, s69, go_sem]) ⟨rfl, hB⟩)
          intro wR hR
          simp only [RI.mergeL, List.getElem?_cons_zero, List.getElem?_cons_succ, Option.getD_some]
          go_wp2_with fail
          go_ret
          exact ⟨rfl, hR.b⟩
        | none =>
          cases p with
          | some k =>
            obtain ⟨x, hx, _⟩ := lastN_at hp.symm
            simp only [hx] at hfor
            obtain rfl : y = x := by have := HY.out; rw [hfor] at this; exact this.symm
            obtain rfl : I = true := by have := HII.out; rw [hfor] at this; exact this.symm
            have hkn : k < n := by have := (List.getElem?_eq_some_iff.1 hx).1; rw [HN.out] at this; exact this
            have hk' : (k : Int) < (n : Int) := by omega
            have k0 : (0 : Int) ≤ (k : Int) := by omega
            obtain ⟨g, off, rfl, hat⟩ := HA.out (by intro e0; rw [e0] at hx; cases hx)
            have hNB : NfB w by_ g off y ns w5 := ⟨hy5, hat.on hb5, hB5⟩
            have HLK := Lib.hid (fun (W : World) (h : At 9 W g off (noRs ns)) => no_load h hx)
            unfold placeI
            clear hp hq hfor hx hat HP HQ hall HLa HLb HST5 hl5 hy5 HA
            go_upto_region 20 with fail
            refine RI.region_det (by kernel_rfl) [.bool true, .bool true, noV y, .slice (some ⟨g, off, none⟩) n cap, .int .i64 (k : Int), .pointer (some ⟨g, off + k * 9, none⟩), noV y, .bool true, .bool true, .bool true] (fun W => NfB w by_ g off y ns W) (none :: none :: some 9 :: none :: none :: none :: none :: none :: none :: none :: none :: none :: none :: none :: none :: none :: none :: none :: none :: none :: none :: none :: none :: none :: none :: none :: none :: none :: none :: none :: none :: none :: none :: none :: none :: none :: none :: none :: none :: none :: none :: none :: none :: none :: none :: none :: none :: none :: none :: none :: none :: none :: none :: none :: none :: none :: none :: none :: none :: none :: none :: none :: none :: none :: none :: none :: none :: none :: none :: none :: none :: none :: some 0 :: some 1 :: some 2 :: some 3 :: some 4 :: some 5 :: some 6 :: some 7 :: some 8 :: none :: none :: none :: none :: none :: none :: none :: []) (by kernel_rfl) (by kernel_rfl) (NfB.drew hNB) ?_ ?_
            · intro i hi A W hB hA
              have hi2 : i < 10 := hi
              have hcase : i = 0 ∨ i = 1 ∨ i = 2 ∨ i = 3 ∨ i = 4 ∨ i = 5 ∨ i = 6 ∨ i = 7 ∨ i = 8 ∨ i = 9 := by omega
              clear hi hi2
              rcases hcase with rfl | rfl | rfl | rfl | rfl | rfl | rfl | rfl | rfl | rfl
              · have s6 : A.tmps[6]?.getD undef = .bool true := (hA.st 6 (by kernel_rfl)).trans rfl
                exact wpOp_of rfl rfl (wp_value (v := .bool true) (W' := W) (by simp [execOp, Act.eval, s6, go_sem]) ⟨rfl, hB⟩)
              · have s72 : A.tmps[72]?.getD undef = .bool true := hA.on 0 72 (by kernel_rfl) (by kernel_rfl)
                exact wpOp_of rfl rfl (wp_value (v := .bool true) (W' := W) (by simp [execOp, Act.eval, s72, go_sem]) ⟨rfl, hB⟩)
              · have hg : A.tmps[73]?.getD undef = .bool true := hA.on 1 73 (by kernel_rfl) (by kernel_rfl)
                have s5 : A.tmps[5]?.getD undef = .pointer (some ⟨by_, 0, none⟩) := (hA.st 5 (by kernel_rfl)).trans rfl
                exact wpOp_want rfl rfl (by kernel_rfl) hg (wp_value (v := noV y) (W' := W) (by exact exec_load rfl (by simpa [Act.eval] using s5) (no_load_blk hB.y)) ⟨rfl, hB⟩)
              · have hg : A.tmps[73]?.getD undef = .bool true := hA.on 1 73 (by kernel_rfl) (by kernel_rfl)
                have s3 : A.tmps[3]?.getD undef = .slice (some ⟨g, off, none⟩) n cap := (hA.st 3 (by kernel_rfl)).trans rfl
                exact wpOp_want rfl rfl (by kernel_rfl) hg (wp_value (v := .slice (some ⟨g, off, none⟩) n cap) (W' := W) (by simp [execOp, Act.eval, s3, go_sem]) ⟨rfl, hB⟩)
              · have hg : A.tmps[73]?.getD undef = .bool true := hA.on 1 73 (by kernel_rfl) (by kernel_rfl)
                have s9 : A.tmps[9]?.getD undef = .int .i64 (k : Int) := (hA.st 9 (by kernel_rfl)).trans rfl
                exact wpOp_want rfl rfl (by kernel_rfl) hg (wp_value (v := .int .i64 (k : Int)) (W' := W) (by simp [execOp, Act.eval, s9, go_sem]) ⟨rfl, hB⟩)
              · have hg : A.tmps[73]?.getD undef = .bool true := hA.on 1 73 (by kernel_rfl) (by kernel_rfl)
                have s75 : A.tmps[75]?.getD undef = .slice (some ⟨g, off, none⟩) n cap := hA.on 3 75 (by kernel_rfl) (by kernel_rfl)
                have s76 : A.tmps[76]?.getD undef = .int .i64 (k : Int) := hA.on 4 76 (by kernel_rfl) (by kernel_rfl)
                exact wpOp_want rfl rfl (by kernel_rfl) hg (wp_value (v := .pointer (some ⟨g, off + k * 9, none⟩)) (W' := W) (by simp [execOp, Act.eval, s75, s76, go_sem, hk', k0]) ⟨rfl, hB⟩)
              · have hg : A.tmps[73]?.getD undef = .bool true := hA.on 1 73 (by kernel_rfl) (by kernel_rfl)
                have s77 : A.tmps[77]?.getD undef = .pointer (some ⟨g, off + k * 9, none⟩) := hA.on 5 77 (by kernel_rfl) (by kernel_rfl)
                exact wpOp_want rfl rfl (by kernel_rfl) hg (wp_value (v := noV y) (W' := W) (by exact exec_load rfl (by simpa [Act.eval] using s77) (HLK.out W hB.at_)) ⟨rfl, hB⟩)
              · have hg : A.tmps[73]?.getD undef = .bool true := hA.on 1 73 (by kernel_rfl) (by kernel_rfl)
                have s74 : A.tmps[74]?.getD undef = noV y := hA.on 2 74 (by kernel_rfl) (by kernel_rfl)
                have s78 : A.tmps[78]?.getD undef = noV y := hA.on 6 78 (by kernel_rfl) (by kernel_rfl)
                exact wpOp_want rfl rfl (by kernel_rfl) hg (wp_value (v := .bool true) (W' := W) (by simp [execOp, Act.eval, s74, s78, go_sem, noV, noL, hself]) ⟨rfl, hB⟩)
              · have s73 : A.tmps[73]?.getD undef = .bool true := hA.on 1 73 (by kernel_rfl) (by kernel_rfl)
                have s79 : A.tmps[79]?.getD undef = .bool true := hA.on 7 79 (by kernel_rfl) (by kernel_rfl)
                exact wpOp_of rfl rfl (wp_value (v := .bool true) (W' := W) (by simp [execOp, Act.eval, s73, s79, go_sem]) ⟨rfl, hB⟩)
              · have s80 : A.tmps[80]?.getD undef = .bool true := hA.on 8 80 (by kernel_rfl) (by kernel_rfl)
                exact wpOp_of rfl rfl (wp_value (v := .bool true) (W' := W) (by simp [execOp, Act.eval, s80, go_sem]) ⟨rfl, hB⟩)
            intro wR hR
            simp only [RI.mergeL, List.getElem?_cons_zero, List.getElem?_cons_succ, Option.getD_some]
            go_wp2_with fail
            go_ret
            exact ⟨rfl, hR.b⟩
          | none =>
            simp only at hfor
            obtain rfl : y = No.zero := by have := HY.out; rw [hfor] at this; exact this.symm
            obtain rfl : I = false := by have := HII.out; rw [hfor] at this; exact this.symm
            have hz : ∀ w', (Op.equalIn 10000 30 (.agg #[.int .i64 0, .int .i64 0, .int .i64 0, .int .i64 0, .int .i64 0, .int .i64 0, .int .i64 0, .string ⟨#[]⟩, .bool false]) (.agg #[.int .i64 0, .int .i64 0, .int .i64 0, .int .i64 0, .int .i64 0, .int .i64 0, .int .i64 0, .string ⟨#[]⟩, .bool false])).run Try.prog w' = .ok true w' := fun w' => hself w'
            unfold placeI
            clear hp hq hfor HP HQ hall HLb HST5 hl5 hy5 HA hself
            go_upto_region 21 with fail
            refine RI.region_det1 [.bool false, .bool true, .bool true, .agg noZ.toArray, .agg noZ.toArray, .bool true, .bool true, .bool true] (fun W => W = w5) (none :: none :: some 7 :: none :: none :: none :: none :: none :: none :: none :: none :: none :: none :: none :: none :: none :: none :: none :: none :: none :: none :: none :: none :: none :: none :: none :: none :: none :: none :: none :: none :: none :: none :: none :: none :: none :: none :: none :: none :: none :: none :: none :: none :: none :: none :: none :: none :: none :: none :: none :: none :: none :: none :: none :: none :: none :: none :: none :: none :: none :: none :: none :: none :: none :: none :: none :: none :: none :: none :: none :: none :: none :: none :: none :: none :: none :: none :: none :: none :: none :: none :: some 0 :: some 1 :: some 2 :: some 3 :: some 4 :: some 5 :: some 6 :: []) (by kernel_rfl) (by kernel_rfl) (rfl) ?_ ?_
            · intro i hi A W hB hA
              have hi2 : i < 8 := hi
              have hcase : i = 0 ∨ i = 1 ∨ i = 2 ∨ i = 3 ∨ i = 4 ∨ i = 5 ∨ i = 6 ∨ i = 7 := by omega
              clear hi hi2
              rcases hcase with rfl | rfl | rfl | rfl | rfl | rfl | rfl | rfl
              · have s6 : A.tmps[6]?.getD undef = .bool false := (hA.st 6 (by kernel_rfl)).trans rfl
                exact wpOp_of rfl rfl (wp_value (v := .bool false) (W' := W) (by simp [execOp, Act.eval, s6, go_sem]) ⟨rfl, hB⟩)
              · have s81 : A.tmps[81]?.getD undef = .bool false := hA.on 0 81 (by kernel_rfl) (by kernel_rfl)
                exact wpOp_of rfl rfl (wp_value (v := .bool true) (W' := W) (by simp [execOp, Act.eval, s81, go_sem]) ⟨rfl, hB⟩)
              · have s82 : A.tmps[82]?.getD undef = .bool true := hA.on 1 82 (by kernel_rfl) (by kernel_rfl)
                exact wpOp_of rfl rfl (wp_value (v := .bool true) (W' := W) (by simp [execOp, Act.eval, s82, go_sem]) ⟨rfl, hB⟩)
              · have hg : A.tmps[83]?.getD undef = .bool true := hA.on 2 83 (by kernel_rfl) (by kernel_rfl)
                have s5 : A.tmps[5]?.getD undef = .pointer (some ⟨by_, 0, none⟩) := (hA.st 5 (by kernel_rfl)).trans rfl
                exact wpOp_want rfl rfl (by kernel_rfl) hg (wp_value (v := .agg noZ.toArray) (W' := W) (by subst hB; exact exec_load rfl (by simpa [Act.eval] using s5) HLa.out) ⟨rfl, hB⟩)
              · have hg : A.tmps[83]?.getD undef = .bool true := hA.on 2 83 (by kernel_rfl) (by kernel_rfl)
                exact wpOp_want rfl rfl (by kernel_rfl) hg (wp_value (v := .agg noZ.toArray) (W' := W) (by simp [execOp, Act.eval, go_sem, noZ]) ⟨rfl, hB⟩)
              · have hg : A.tmps[83]?.getD undef = .bool true := hA.on 2 83 (by kernel_rfl) (by kernel_rfl)
                have s84 : A.tmps[84]?.getD undef = .agg noZ.toArray := hA.on 3 84 (by kernel_rfl) (by kernel_rfl)
                have s85 : A.tmps[85]?.getD undef = .agg noZ.toArray := hA.on 4 85 (by kernel_rfl) (by kernel_rfl)
                exact wpOp_want rfl rfl (by kernel_rfl) hg (wp_value (v := .bool true) (W' := W) (by simp [execOp, Act.eval, s84, s85, go_sem, noZ, hz]) ⟨rfl, hB⟩)
              · have s83 : A.tmps[83]?.getD undef = .bool true := hA.on 2 83 (by kernel_rfl) (by kernel_rfl)
                have s86 : A.tmps[86]?.getD undef = .bool true := hA.on 5 86 (by kernel_rfl) (by kernel_rfl)
                exact wpOp_of rfl rfl (wp_value (v := .bool true) (W' := W) (by simp [execOp, Act.eval, s83, s86, go_sem]) ⟨rfl, hB⟩)
              · have s87 : A.tmps[87]?.getD undef = .bool true := hA.on 6 87 (by kernel_rfl) (by kernel_rfl)
                exact wpOp_of rfl rfl (wp_value (v := .bool true) (W' := W) (by simp [execOp, Act.eval, s87, go_sem]) ⟨rfl, hB⟩)
            intro wR hR
            simp only [RI.mergeL, List.getElem?_cons_zero, List.getElem?_cons_succ, Option.getD_some]
            rw [hR]
            go_wp2_with fail
            go_ret
            exact ⟨rfl, hB5⟩

set_option maxRecDepth 100000 in
theorem lifted (os : Os) (started : os.Started) (H : Type) (enc : TypeId × Value → H) :
    ReturnsInHanded {} Try.checked os 3 .any (Rows.fnNoteForSpec.pre6 enc Try.prog Try.f3 Rows.fnNoteForRow.domain false) (Rows.fnNoteForSpec.post enc Try.prog Try.f3 false true false false) := by
  refine returnsInHanded_of_change (C := Try.checked) own started (by kernel_rfl) Try.func3
    (ChangeSpec.witness6 (enc := enc) (C := Try.checked) false ⟨#[], #[.slice none 0 0], []⟩ 8 (by kernel_rfl) (by kernel_rfl) (by kernel_rfl) (by kernel_rfl)) ?_
  intro W base args ds gs before hval0 hW hcnd _
  have hval : ∀ (j : Nat) t v, Try.f3.params[j]? = some t → args[j]? = some v → Value.okWide Try.prog W .any base t v := hval0
  have hW' := hW
  obtain ⟨p, q, hA0, hV, rfl, hfz, hnd⟩ := hW
  have hA : DataW.TrodAll enc Try.prog W 0 (fun _ => true) true Try.f3.params.toList args.toList ds p := hA0
  rw [Try.params3] at hA hval
  obtain ⟨v0, vs0, d0, ds0, p0, q0, hargs, rfl, rfl, h0, r0⟩ := trodAll_cons hA
  obtain ⟨rfl, rfl, rfl⟩ := trodAll_nil r0
  obtain rfl : args = #[v0] := by cases args; simp_all
  obtain ⟨rfl, rfl⟩ := trodVars_none hV
  have k0 := h0
  have lt0 : ∀ x ∈ p0, x.block < W.heap.size := by obtain ⟨m, hm⟩ := k0; exact DataW.trod_lt m _ _ _ hm
  obtain ⟨a0, len0, cap0, rfl, w0⟩ := open_bytes (hval 0 22 v0 rfl rfl) h0
  refine (walk a0 len0 cap0 W w0).mono fun e W' ⟨he, bel⟩ => ?_
  subst he
  exact ⟨_, rfl, _, _, _, [], _, [], hW', trodAll_mk1 (shut_bool Try.underlying4 _), (trodAll_cons_mk (Below.trod laidOut (by kernel_rfl) (of_decide_eq_true (by kernel_rfl)) k0 bel lt0) trodAll_mk0), rfl, bel.frame _, fun h => by cases h⟩

theorem over : Rows.fnNoteForRow.holds Try.pinned (OpenSpec.ofChange Rows.fnNoteForSpec) :=
  OpenClaim.holds_of_wide 3 Try.f3 rfl rfl rfl rfl rfl rfl rfl ⟨rfl, rfl, rfl, rfl, rfl⟩ rfl rfl rfl rfl rfl (by kernel_rfl) Try.func3 (by kernel_rfl)
    (of_decide_eq_true (by kernel_rfl)) (by unfold Func.isWrapper; first | (rw [if_pos (by decide +kernel)]; kernel_rfl) | (rw [if_neg (by decide +kernel)]; exact ⟨rfl, rfl⟩))
    (fun os started H enc _ => lifted os started H enc)

theorem proved : Rows.FnNoteForSaid := over
#print axioms proved
end Go.Proofs.Ytmcjfjchpclamaa.fnNoteFor
