/- Contracts of chapter 2's functions (curves), part 3: StopOf, CurveAt. -/
import Derived.Test.YtmaagcmbofedhaaBase2b
import Derived.IntWalk
namespace Go.Proofs.Ytmaagcmbofedhaa.B2
open Go.Proofs.Ytmaagcmbofedhaa.P1 Go.Proofs.Ytmaagcmbofedhaa.B1 Go.Proofs.Ytmaagcmbofedhaa.P2
open Go.ChangeShapes Go.WideShapes Go.ChangeAt Go.RowKit
set_option linter.unusedVariables false

theorem far_yes {x1 x2 p : Int} {t : Nat} (h : 107374182400 * p ≤ 65536 * along x1 x2 t) : far x1 x2 p t = true := by simpa [far] using h
theorem far_no {x1 x2 p : Int} {t : Nat} (h : ¬ 107374182400 * p ≤ 65536 * along x1 x2 t) : far x1 x2 p t = false := by simpa [far] using h

/-- What a search between lo and hi knows: below lo none is far enough, and hi is. -/
def Found (x1 x2 p : Int) (lo hi : Nat) : Prop := (∀ i, i < lo → far x1 x2 p i = false) ∧ far x1 x2 p hi = true

theorem Found.up {x1 x2 p : Int} {lo hi m : Nat} (a0 : 0 ≤ x1) (a1 : x1 ≤ 100) (b0 : 0 ≤ x2) (b1 : x2 ≤ 100) (h : Found x1 x2 p lo hi) (hm : m ≤ 1024) (hf : far x1 x2 p m = false) : Found x1 x2 p (m + 1) hi := by
  refine ⟨fun i hi' => ?_, h.2⟩
  cases e : far x1 x2 p i
  · rfl
  · have := far_mono a0 a1 b0 b1 (show i ≤ m by omega) hm e
    rw [hf] at this; cases this

theorem Found.down {x1 x2 p : Int} {lo hi m : Nat} (h : Found x1 x2 p lo hi) (hf : far x1 x2 p m = true) : Found x1 x2 p lo m := ⟨h.1, hf⟩

theorem Found.end {x1 x2 p : Int} {t : Nat} (hp : p ≤ 65536) (h : Found x1 x2 p t t) : stop x1 x2 p = t := stop_eq hp h.2 h.1

set_option maxHeartbeats 1000000 in
theorem StopOf_spec (x1 y1 x2 y2 p : Int) (w : World) :
    Calls Try.prog 27 #[.agg #[.int .i64 x1, .int .i64 y1, .int .i64 x2, .int .i64 y2], .int .i64 p] w (Ans (.int .i64 (stopOf x1 y1 x2 y2 p)) w) := by
  cases h1 : curveOk x1 y1 x2 y2
  · have Hf := Lib.hid (stopOf_out (p := p) (Or.inl h1))
    go_enter Try.func27, Try.ntmps27
    go_wp2_with (go_at_call 25; refine (CurveOk_spec _ _ _ _ _).mono ?_; rintro e w1 ⟨rfl, hb1⟩)
    go_ret
    exact ⟨by rw [Hf.out]; rfl, Below.box hb1⟩
  · cases h2 : within p 0 65536
    · have Hf := Lib.hid (stopOf_out (x1 := x1) (y1 := y1) (x2 := x2) (y2 := y2) (Or.inr h2))
      go_enter Try.func27, Try.ntmps27
      go_wp2_with (first | (go_at_call 25; refine (CurveOk_spec _ _ _ _ _).mono ?_; rintro e w1 ⟨rfl, hb1⟩) | (go_at_call 22; refine (Part_spec _ _).mono ?_; rintro e w' ⟨rfl, rfl⟩))
      go_ret
      exact ⟨by rw [Hf.out]; rfl, Below.box hb1⟩
    · have Hf := Lib.hid (stopOf_in h1 h2)
      obtain ⟨a0, a1, b0, b1, _, _, _, _⟩ := curveOk_true h1
      obtain ⟨p0, p1⟩ := within_true h2
      go_enter Try.func27, Try.ntmps27
      go_wp2_with (first | (go_at_call 25; refine (CurveOk_spec _ _ _ _ _).mono ?_; rintro e w1 ⟨rfl, hb1⟩; obtain ⟨hc1, hf1⟩ := bcell hb1) | (go_at_call 22; refine (Part_spec _ _).mono ?_; rintro e w' ⟨rfl, rfl⟩))
      clear h1 h2
      go_loop [5, 6] (fun s5 s6 => ∃ lo hi : Nat, lo ≤ hi ∧ hi ≤ 1024 ∧ s5 = .int .i64 lo ∧ s6 = .int .i64 hi ∧ Hid (Found x1 x2 p lo hi)) (fun s5 s6 => (intOf s6 - intOf s5).toNat)
      case atStart => exact ⟨0, 1024, by omega, by omega, rfl, rfl, Lib.hid ⟨fun i h => absurd h (Nat.not_lt_zero _), far_end p1⟩⟩
      case round =>
        obtain ⟨lo, hi, hlh, hin, rfl, rfl, I⟩ := hrel
        by_cases hlt : lo < hi
        · have em : (((lo + hi) / 2 : Nat) : Int) = ((lo : Int) + hi) / 2 := by omega
          have bd := along_bd a0 a1 b0 b1 (t := ((lo : Int) + hi) / 2) (by omega) (by omega)
          obtain ⟨bd0, bd1⟩ := bd
          by_cases hf : 107374182400 * p ≤ 65536 * along x1 x2 (((lo : Int) + hi) / 2)
          · have HF := Lib.hid (far_yes (x1 := x1) (x2 := x2) (p := p) (t := (lo + hi) / 2) (by rw [em]; exact hf))
            have EM := Lib.hid em
            clear em
            go_wp2_with (go_at_call 29; refine (along_spec _ _ _ _ (by omega) (by omega) (by omega) (by omega) (by omega) (by omega)).mono ?_; rintro e w' ⟨rfl, rfl⟩)
            go_round
            case rel => exact ⟨lo, (lo + hi) / 2, by omega, by omega, rfl, by rw [EM.out], Lib.hid (I.out.down HF.out)⟩
            case measure => simp [intOf]; omega
          · have HF := Lib.hid (far_no (x1 := x1) (x2 := x2) (p := p) (t := (lo + hi) / 2) (by rw [em]; exact hf))
            have EM := Lib.hid em
            clear em
            go_wp2_with (go_at_call 29; refine (along_spec _ _ _ _ (by omega) (by omega) (by omega) (by omega) (by omega) (by omega)).mono ?_; rintro e w' ⟨rfl, rfl⟩)
            go_round
            case rel => exact ⟨(lo + hi) / 2 + 1, hi, by omega, by omega, by rw [← EM.out]; go_num, rfl, Lib.hid (I.out.up a0 a1 b0 b1 (by omega) HF.out)⟩
            case measure => simp [intOf]; omega
        · obtain rfl : lo = hi := by omega
          have hs := Lib.hid (I.out.end p1)
          go_wp2
          go_ret
          exact ⟨by rw [Hf.out, hs.out]; rfl, Below.box hb1⟩

theorem quiet_same {P : Program} {f : FuncId} {args : Array Value} {w : World} {n : Nat} {v : Value}
    (h : Calls P f args (w.drewN n) fun e w' => e = .returned v ∧ w.drewN n = w') : Calls P f args (w.drewN n) fun e w'' => e = .returned v ∧ ∃ m, w'' = w.drewN m :=
  h.mono fun _ _ ⟨he, hm⟩ => ⟨he, n, hm.symm⟩

/-- The closure that StopOf hands to the search: is stop i far enough? It only reads. -/
theorem stopClosure_impl (x1 x2 p : Int) (bc bp i : Nat) (W : World) (hi : i ≤ 1024) (a0 : 0 ≤ x1) (a1 : x1 ≤ 100) (b0 : 0 ≤ x2) (b1 : x2 ≤ 100) (p0 : 0 ≤ p) (p1 : p ≤ 65536)
    (c0 : W.cell? ⟨bc, 0, none⟩ = some (.int .i64 x1)) (c2 : W.cell? ⟨bc, 2, none⟩ = some (.int .i64 x2)) (cp : W.cell? ⟨bp, 0, none⟩ = some (.int .i64 p)) :
    Calls Try.prog 56 #[.int .i64 i, .pointer (some ⟨bc, 0, none⟩), .pointer (some ⟨bp, 0, none⟩)] W fun e w' => e = .returned (.bool (far x1 x2 p i)) ∧ ∃ q, w' = W.drewN q := by
  have HF := Lib.hid (show far x1 x2 p i = decide (107374182400 * p ≤ 65536 * along x1 x2 i) from rfl)
  have i0 : (0 : Int) ≤ (i : Int) := Int.natCast_nonneg _
  have i1 : (i : Int) ≤ 1024 := by omega
  obtain ⟨bd0, bd1⟩ := along_bd a0 a1 b0 b1 i0 i1
  have hw1 : IntKind.i64.wrap (65536 * along x1 x2 i) = 65536 * along x1 x2 i := IntWalk.i64_in _ (by omega)
  have hw2 : IntKind.i64.wrap (107374182400 * p) = 107374182400 * p := IntWalk.i64_in _ (by omega)
  go_enter Try.func56, Try.ntmps56
  go_wp2
  go_quiet ((go_at_call 44; exact quiet_same (along_impl _ _ _ _ (by omega) (by omega) (by omega) (by omega) (by omega) (by omega))))
  go_wp2
  go_ret
  exact ⟨by rw [HF.out]; rfl, nq, rfl⟩

set_option maxHeartbeats 1000000 in
theorem search_impl (x1 x2 p : Int) (bc bp : Nat) (w : World) (a0 : 0 ≤ x1) (a1 : x1 ≤ 100) (b0 : 0 ≤ x2) (b1 : x2 ≤ 100) (p0 : 0 ≤ p) (p1 : p ≤ 65536)
    (c0 : w.cell? ⟨bc, 0, none⟩ = some (.int .i64 x1)) (c2 : w.cell? ⟨bc, 2, none⟩ = some (.int .i64 x2)) (cp : w.cell? ⟨bp, 0, none⟩ = some (.int .i64 p)) :
    Calls Try.prog 55 #[.int .i64 1024, .func (.func 56) #[] #[.pointer (some ⟨bc, 0, none⟩), .pointer (some ⟨bp, 0, none⟩)]] w fun e w' => e = .returned (.int .i64 (stop x1 x2 p : Nat)) ∧ ∃ q, w' = w.drewN q := by
  have HC := Lib.hid (fun (q i : Nat) (h : i ≤ 1024) => stopClosure_impl x1 x2 p bc bp i (w.drewN q) h a0 a1 b0 b1 p0 p1 c0 c2 cp)
  clear c0 c2 cp
  go_enter Try.func55, Try.ntmps55
  go_wp2
  go_loopg [5, 6] 1024 (fun kx s5 s6 wr => ∃ lo hi q : Nat, s5 = .int .i64 lo ∧ s6 = .int .i64 hi ∧ lo ≤ hi ∧ hi ≤ 1024 ∧ hi - lo ≤ kx ∧ wr = w.drewN q ∧ Hid (Found x1 x2 p lo hi))
  case atStart => exact ⟨0, 1024, 0, rfl, rfl, by omega, by omega, by omega, rfl, Lib.hid ⟨fun i h => absurd h (Nat.not_lt_zero _), far_end p1⟩⟩
  case round =>
    obtain ⟨lo, hi, q, rfl, rfl, hlh, hin, hg, rfl, I⟩ := hrel
    by_cases hlt : lo < hi
    · have hc := HC.out q ((lo + hi) / 2) (by omega)
      have em : (((lo + hi) / 2 : Nat) : Int) = ((lo : Int) + (hi : Int)) / 2 := by omega
      rw [em] at hc
      cases hp : far x1 x2 p ((lo + hi) / 2) <;> rw [hp] at hc
      · have HP := Lib.hid hp
        have EM := Lib.hid em
        clear hp em
        go_wp2_with (go_at_call 56; refine hc.mono ?_; rintro e w' ⟨rfl, nq, rfl⟩)
        go_roundg (hi - ((lo + hi) / 2 + 1))
        case measure => omega
        case rel => exact ⟨(lo + hi) / 2 + 1, hi, q + nq, by rw [← EM.out]; go_num, rfl, by omega, hin, Nat.le_refl _, rfl, Lib.hid (I.out.up a0 a1 b0 b1 (by omega) HP.out)⟩
      · have HP := Lib.hid hp
        have EM := Lib.hid em
        clear hp em
        go_wp2_with (go_at_call 56; refine hc.mono ?_; rintro e w' ⟨rfl, nq, rfl⟩)
        go_roundg ((lo + hi) / 2 - lo)
        case measure => omega
        case rel => exact ⟨lo, (lo + hi) / 2, q + nq, rfl, by rw [← EM.out], by omega, by omega, Nat.le_refl _, rfl, Lib.hid (I.out.down HP.out)⟩
    · obtain rfl : lo = hi := by omega
      have hs := Lib.hid (I.out.end p1)
      go_wp2
      go_ret
      exact ⟨by rw [hs.out]; rfl, q, rfl⟩

theorem boxed {w w1 : World} {x1 y1 x2 y2 p : Int} {t u : TypeId} (hb : Below ((w.alloc (.cells #[.int .i64 x1, .int .i64 y1, .int .i64 x2, .int .i64 y2] t)).alloc (.cells #[.int .i64 p] u)).heap.size ((w.alloc (.cells #[.int .i64 x1, .int .i64 y1, .int .i64 x2, .int .i64 y2] t)).alloc (.cells #[.int .i64 p] u)) w1) :
    w1.cell? ⟨w.heap.size, 0, none⟩ = some (.int .i64 x1) ∧ w1.cell? ⟨w.heap.size, 2, none⟩ = some (.int .i64 x2) ∧ w1.cell? ⟨w.heap.size + 1, 0, none⟩ = some (.int .i64 p) ∧ Below w.heap.size w w1 := by
  obtain ⟨hc, _⟩ := bcell hb
  refine ⟨?_, ?_, ?_, (((Below.refl _ _).alloc (Nat.le_refl _) _).alloc (by simp) _).trans (hb.mono (by simp; omega))⟩
  · rw [hc _ _ (by simp; omega)]; simp
  · rw [hc _ _ (by simp; omega)]; simp
  · rw [hc _ _ (by simp)]; simp

theorem below_drewN {B : Nat} {a w : World} (h : Below B a w) (q : Nat) : Below B a (w.drewN q) := ⟨h.os, h.tape, h.output, h.size, h.block⟩

set_option maxHeartbeats 1000000 in
theorem StopOf_impl (x1 y1 x2 y2 p : Int) (w : World) :
    Calls Try.prog 41 #[.agg #[.int .i64 x1, .int .i64 y1, .int .i64 x2, .int .i64 y2], .int .i64 p] w (Ans (.int .i64 (stopOf x1 y1 x2 y2 p)) w) := by
  cases h1 : curveOk x1 y1 x2 y2
  · have Hf := Lib.hid (stopOf_out (p := p) (Or.inl h1))
    go_enter Try.func41, Try.ntmps41
    go_wp2_with (go_at_call 50; refine (CurveOk_impl _ _ _ _ _).mono ?_; rintro e w1 ⟨rfl, hb1⟩; have hb2 := boxed hb1; clear hb1)
    go_ret
    exact ⟨by rw [Hf.out]; rfl, hb2.2.2.2⟩
  · cases h2 : within p 0 65536
    · have Hf := Lib.hid (stopOf_out (x1 := x1) (y1 := y1) (x2 := x2) (y2 := y2) (Or.inr h2))
      go_enter Try.func41, Try.ntmps41
      go_wp2_with (first | (go_at_call 50; refine (CurveOk_impl _ _ _ _ _).mono ?_; rintro e w1 ⟨rfl, hb1⟩; obtain ⟨q0, q2, qp, hb2⟩ := boxed hb1; clear hb1) | (go_at_call 18; refine (PartOk_impl _ _).mono ?_; rintro e w' ⟨rfl, rfl⟩))
      go_ret
      exact ⟨by rw [Hf.out]; rfl, hb2⟩
    · have Hf := Lib.hid (stopOf_in h1 h2)
      obtain ⟨a0, a1, b0, b1, _, _, _, _⟩ := curveOk_true h1
      obtain ⟨p0, p1⟩ := within_true h2
      go_enter Try.func41, Try.ntmps41
      go_wp2_with (first | (go_at_call 50; refine (CurveOk_impl _ _ _ _ _).mono ?_; rintro e w1 ⟨rfl, hb1⟩; obtain ⟨q0, q2, qp, hb2⟩ := boxed hb1; clear hb1) | (go_at_call 18; refine (PartOk_impl _ _).mono ?_; rintro e w' ⟨rfl, rfl⟩) | (go_at_call 55; refine (search_impl x1 x2 p _ _ _ a0 a1 b0 b1 p0 p1 q0 q2 qp).mono ?_; rintro e w' ⟨rfl, nq, rfl⟩))
      go_ret
      exact ⟨by rw [Hf.out]; rfl, below_drewN hb2 nq⟩

/-- 'n by by', down, where by is the whole way. -/
theorem divWay_impl (n b : Int) (w : World) (h1 : -4611686018427387904 ≤ n) (h2 : n ≤ 4611686018427387904) (hb : 0 < b) (hb2 : b ≤ 1000000000000) :
    Calls Try.prog 43 #[.int .i64 n, .int .i64 b] w fun e w' => e = .returned (.int .i64 (n / b)) ∧ w = w' := by
  have hd := tdiv_down n b hb
  have hm1 : n.tdiv b ≤ 4611686018427387904 := by
    by_cases h : 0 ≤ n
    · rw [Int.tdiv_eq_ediv_of_nonneg h]; have := Int.ediv_le_self b h; omega
    · have := Int.tdiv_nonneg (a := -n) (b := b) (by omega) (by omega); rw [Int.neg_tdiv] at this; omega
  have hm2 : -4611686018427387904 ≤ n.tdiv b := by
    by_cases h : 0 ≤ n
    · have := Int.tdiv_nonneg (a := n) (b := b) h (by omega); omega
    · have := Int.ediv_le_self (a := -n) b (by omega); have e := Int.tdiv_eq_ediv_of_nonneg (a := -n) (b := b) (by omega); rw [Int.neg_tdiv] at e; omega
  by_cases hneg : n.tmod b < 0
  · rw [if_pos hneg] at hd
    have Hd := Lib.hid hd
    clear hd
    go_enter Try.func43, Try.ntmps43
    go_wp2
    go_ret
    exact ⟨by rw [← Hd.out]; rfl, rfl⟩
  · rw [if_neg hneg] at hd
    have Hd := Lib.hid hd
    clear hd
    go_enter Try.func43, Try.ntmps43
    go_wp2
    go_ret
    exact ⟨by rw [← Hd.out]; rfl, rfl⟩

theorem floorWay_spec (n b : Int) (w : World) (h1 : -4611686018427387904 ≤ n) (h2 : n ≤ 4611686018427387904) (hb : 0 < b) (hb2 : b ≤ 1000000000000) :
    Calls Try.prog 28 #[.int .i64 n, .int .i64 b] w fun e w' => e = .returned (.int .i64 (n / b)) ∧ w = w' := by
  have hd := tdiv_down n b hb
  have hm1 : n.tdiv b ≤ 4611686018427387904 := by
    by_cases h : 0 ≤ n
    · rw [Int.tdiv_eq_ediv_of_nonneg h]; have := Int.ediv_le_self b h; omega
    · have := Int.tdiv_nonneg (a := -n) (b := b) (by omega) (by omega); rw [Int.neg_tdiv] at this; omega
  have hm2 : -4611686018427387904 ≤ n.tdiv b := by
    by_cases h : 0 ≤ n
    · have := Int.tdiv_nonneg (a := n) (b := b) h (by omega); omega
    · have := Int.ediv_le_self (a := -n) b (by omega); have e := Int.tdiv_eq_ediv_of_nonneg (a := -n) (b := b) (by omega); rw [Int.neg_tdiv] at e; omega
  by_cases hneg : n.tmod b < 0
  · rw [if_pos hneg] at hd
    have Hd := Lib.hid hd
    clear hd
    go_enter Try.func28, Try.ntmps28
    go_wp2
    go_ret
    exact ⟨by rw [← Hd.out]; rfl, rfl⟩
  · rw [if_neg hneg] at hd
    have Hd := Lib.hid hd
    clear hd
    go_enter Try.func28, Try.ntmps28
    go_wp2
    go_ret
    exact ⟨by rw [← Hd.out]; rfl, rfl⟩

theorem stop_in {x1 x2 p : Int} : within (stop x1 x2 p : Int) 0 1024 = true := within_mk (by omega) (by have := stop_le x1 x2 p; omega)

set_option maxHeartbeats 1000000 in
theorem CurveAt_impl (x1 y1 x2 y2 p : Int) (w : World) :
    Calls Try.prog 20 #[.agg #[.int .i64 x1, .int .i64 y1, .int .i64 x2, .int .i64 y2], .int .i64 p] w (Ans (.int .i64 (curveAt x1 y1 x2 y2 p)) w) := by
  by_cases h : curveOk x1 y1 x2 y2 = true ∧ within p 0 65536 = true
  · obtain ⟨h1, h2⟩ := h
    have Hf := Lib.hid (curveAt_in h1 h2)
    have hs := stopOf_in h1 h2
    have hw := stop_in (x1 := x1) (x2 := x2) (p := p)
    have hle := stop_le x1 x2 p
    obtain ⟨_, _, _, _, a0, a1, b0, b1⟩ := curveOk_true h1
    clear h1 h2
    generalize stop x1 x2 p = t at *
    obtain ⟨l0, l1⟩ := along_far (a := y1) (b := y2) (t := t) (by omega) (by omega) (by omega) (by omega) (by omega) (by omega)
    go_enter Try.func20, Try.ntmps20
    go_wp2_with (first | (go_at_call 41; refine (StopOf_impl _ _ _ _ _ _).mono ?_; rintro e w1 ⟨rfl, hb1⟩; obtain ⟨hc1, hf1⟩ := bcell hb1) | (go_at_call 42; refine (stopOk_impl _ _).mono ?_; rintro e w' ⟨rfl, rfl⟩) | (go_at_call 44; refine (along_impl _ _ _ _ (by omega) (by omega) (by omega) (by omega) (by omega) (by omega)).mono ?_; rintro e w' ⟨rfl, rfl⟩) | (go_at_call 43; refine (divWay_impl _ _ _ (by omega) (by omega) (by omega) (by omega)).mono ?_; rintro e w' ⟨rfl, rfl⟩))
    go_ret
    exact ⟨by rw [Hf.out]; rfl, Below.box hb1⟩
  · have h' : curveOk x1 y1 x2 y2 = false ∨ within p 0 65536 = false := by
      cases h1 : curveOk x1 y1 x2 y2
      · exact Or.inl rfl
      · cases h2 : within p 0 65536
        · exact Or.inr rfl
        · exact absurd ⟨h1, h2⟩ h
    have Hf := Lib.hid (curveAt_out h')
    have hs := stopOf_out h'
    have hw : within (-1) 0 1024 = false := rfl
    clear h h'
    go_enter Try.func20, Try.ntmps20
    go_wp2_with (first | (go_at_call 41; refine (StopOf_impl _ _ _ _ _ _).mono ?_; rintro e w1 ⟨rfl, hb1⟩) | (go_at_call 42; refine (stopOk_impl _ _).mono ?_; rintro e w' ⟨rfl, rfl⟩))
    go_ret
    exact ⟨by rw [Hf.out]; rfl, Below.box hb1⟩

set_option maxHeartbeats 1000000 in
theorem CurveAt_spec (x1 y1 x2 y2 p : Int) (w : World) :
    Calls Try.prog 12 #[.agg #[.int .i64 x1, .int .i64 y1, .int .i64 x2, .int .i64 y2], .int .i64 p] w (Ans (.int .i64 (curveAt x1 y1 x2 y2 p)) w) := by
  by_cases h : curveOk x1 y1 x2 y2 = true ∧ within p 0 65536 = true
  · obtain ⟨h1, h2⟩ := h
    have Hf := Lib.hid (curveAt_in h1 h2)
    have hs := stopOf_in h1 h2
    have hle := stop_le x1 x2 p
    obtain ⟨_, _, _, _, a0, a1, b0, b1⟩ := curveOk_true h1
    clear h1 h2
    generalize stop x1 x2 p = t at *
    have t0 : (0 : Int) ≤ (t : Int) := Int.natCast_nonneg _
    obtain ⟨l0, l1⟩ := along_far (a := y1) (b := y2) (t := t) (by omega) (by omega) (by omega) (by omega) (by omega) (by omega)
    go_enter Try.func12, Try.ntmps12
    go_wp2_with (first | (go_at_call 27; refine (StopOf_spec _ _ _ _ _ _).mono ?_; rintro e w1 ⟨rfl, hb1⟩; obtain ⟨hc1, hf1⟩ := bcell hb1) | (go_at_call 29; refine (along_spec _ _ _ _ (by omega) (by omega) (by omega) (by omega) (by omega) (by omega)).mono ?_; rintro e w' ⟨rfl, rfl⟩) | (go_at_call 28; refine (floorWay_spec _ _ _ (by omega) (by omega) (by omega) (by omega)).mono ?_; rintro e w' ⟨rfl, rfl⟩))
    go_ret
    exact ⟨by rw [Hf.out]; rfl, Below.box hb1⟩
  · have h' : curveOk x1 y1 x2 y2 = false ∨ within p 0 65536 = false := by
      cases h1 : curveOk x1 y1 x2 y2
      · exact Or.inl rfl
      · cases h2 : within p 0 65536
        · exact Or.inr rfl
        · exact absurd ⟨h1, h2⟩ h
    have Hf := Lib.hid (curveAt_out h')
    have hs := stopOf_out h'
    clear h h'
    go_enter Try.func12, Try.ntmps12
    go_wp2_with (go_at_call 27; refine (StopOf_spec _ _ _ _ _ _).mono ?_; rintro e w1 ⟨rfl, hb1⟩)
    go_ret
    exact ⟨by rw [Hf.out]; rfl, Below.box hb1⟩

/-- A curve laid into a block of its own. -/
theorem four_mk {w w1 : World} (x1 y1 x2 y2 : Int) (t : TypeId) (hb : Below w.heap.size w w1) :
    (w1.alloc (.cells #[.int .i64 x1, .int .i64 y1, .int .i64 x2, .int .i64 y2] t)).cell? ⟨w1.heap.size, 0, none⟩ = some (.int .i64 x1)
    ∧ (w1.alloc (.cells #[.int .i64 x1, .int .i64 y1, .int .i64 x2, .int .i64 y2] t)).cell? ⟨w1.heap.size, 1, none⟩ = some (.int .i64 y1)
    ∧ (w1.alloc (.cells #[.int .i64 x1, .int .i64 y1, .int .i64 x2, .int .i64 y2] t)).cell? ⟨w1.heap.size, 2, none⟩ = some (.int .i64 x2)
    ∧ (w1.alloc (.cells #[.int .i64 x1, .int .i64 y1, .int .i64 x2, .int .i64 y2] t)).cell? ⟨w1.heap.size, 3, none⟩ = some (.int .i64 y2)
    ∧ w1.heap.size < (w1.alloc (.cells #[.int .i64 x1, .int .i64 y1, .int .i64 x2, .int .i64 y2] t)).heap.size
    ∧ Below w.heap.size w (w1.alloc (.cells #[.int .i64 x1, .int .i64 y1, .int .i64 x2, .int .i64 y2] t)) :=
  ⟨by simp, by simp, by simp, by simp, by simp, hb.alloc hb.size _⟩

theorem below_alloc_self (w : World) (o : Obj) : Below w.heap.size w (w.alloc o) := (Below.refl _ _).alloc (Nat.le_refl _) _

theorem held8_drew {w w' : World} {c d : Nat} {v0 v1 v2 v3 u0 u1 u2 u3 : Value} (c0 : w'.cell? ⟨c, 0, none⟩ = some v0) (c1 : w'.cell? ⟨c, 1, none⟩ = some v1) (c2 : w'.cell? ⟨c, 2, none⟩ = some v2) (c3 : w'.cell? ⟨c, 3, none⟩ = some v3)
    (d0 : w'.cell? ⟨d, 0, none⟩ = some u0) (d1 : w'.cell? ⟨d, 1, none⟩ = some u1) (d2 : w'.cell? ⟨d, 2, none⟩ = some u2) (d3 : w'.cell? ⟨d, 3, none⟩ = some u3) (hl : c < w'.heap.size) (hm : d < w'.heap.size) (hB : Below w.heap.size w w') :
    w'.drew.cell? ⟨c, 0, none⟩ = some v0 ∧ w'.drew.cell? ⟨c, 1, none⟩ = some v1 ∧ w'.drew.cell? ⟨c, 2, none⟩ = some v2 ∧ w'.drew.cell? ⟨c, 3, none⟩ = some v3 ∧
    w'.drew.cell? ⟨d, 0, none⟩ = some u0 ∧ w'.drew.cell? ⟨d, 1, none⟩ = some u1 ∧ w'.drew.cell? ⟨d, 2, none⟩ = some u2 ∧ w'.drew.cell? ⟨d, 3, none⟩ = some u3 ∧ c < w'.drew.heap.size ∧ d < w'.drew.heap.size ∧ Below w.heap.size w w'.drew :=
  ⟨c0, c1, c2, c3, d0, d1, d2, d3, hl, hm, ⟨hB.os, hB.tape, hB.output, hB.size, hB.block⟩⟩

theorem held8_call {w w' w2 : World} {c d : Nat} {v0 v1 v2 v3 u0 u1 u2 u3 : Value} (g : Below w'.heap.size w' w2) (c0 : w'.cell? ⟨c, 0, none⟩ = some v0) (c1 : w'.cell? ⟨c, 1, none⟩ = some v1) (c2 : w'.cell? ⟨c, 2, none⟩ = some v2) (c3 : w'.cell? ⟨c, 3, none⟩ = some v3)
    (d0 : w'.cell? ⟨d, 0, none⟩ = some u0) (d1 : w'.cell? ⟨d, 1, none⟩ = some u1) (d2 : w'.cell? ⟨d, 2, none⟩ = some u2) (d3 : w'.cell? ⟨d, 3, none⟩ = some u3) (hl : c < w'.heap.size) (hm : d < w'.heap.size) (hB : Below w.heap.size w w') :
    w2.cell? ⟨c, 0, none⟩ = some v0 ∧ w2.cell? ⟨c, 1, none⟩ = some v1 ∧ w2.cell? ⟨c, 2, none⟩ = some v2 ∧ w2.cell? ⟨c, 3, none⟩ = some v3 ∧
    w2.cell? ⟨d, 0, none⟩ = some u0 ∧ w2.cell? ⟨d, 1, none⟩ = some u1 ∧ w2.cell? ⟨d, 2, none⟩ = some u2 ∧ w2.cell? ⟨d, 3, none⟩ = some u3 ∧ c < w2.heap.size ∧ d < w2.heap.size ∧ Below w.heap.size w w2 :=
  ⟨(g.cell (p := ⟨c, 0, none⟩) hl).trans c0, (g.cell (p := ⟨c, 1, none⟩) hl).trans c1, (g.cell (p := ⟨c, 2, none⟩) hl).trans c2, (g.cell (p := ⟨c, 3, none⟩) hl).trans c3,
   (g.cell (p := ⟨d, 0, none⟩) hm).trans d0, (g.cell (p := ⟨d, 1, none⟩) hm).trans d1, (g.cell (p := ⟨d, 2, none⟩) hm).trans d2, (g.cell (p := ⟨d, 3, none⟩) hm).trans d3, Nat.lt_of_lt_of_le hl g.size, Nat.lt_of_lt_of_le hm g.size, hB.trans (g.mono hB.size)⟩

end Go.Proofs.Ytmaagcmbofedhaa.B2
