/- Contracts of chapter 2's functions (curves), of the program's and of the reference's, over this seat's program. -/
import Derived.Test.YtmaagcmbofedhaaDoorBase1
import Derived.Test.YtmaagcmbofedhaaDoorPlain2
import Derived.Deep.QuietTactic
import Derived.BigQuiet
import Derived.WalkLawsBesides
import Derived.Below
import Derived.Deep.RegionWith
import Derived.Deep.LoopGhost
import Derived.Deep.RegionHeld3
import Derived.Laws.StructEq
import Derived.Laws.Tables
import Derived.Laws.Cover2
import Derived.KernelRfl
namespace Go.Proofs.YtmaagcmbofedhaaDoor.B2
open Go.Proofs.YtmaagcmbofedhaaDoor.P1 Go.Proofs.YtmaagcmbofedhaaDoor.B1 Go.Proofs.YtmaagcmbofedhaaDoor.P2
open Go.ChangeShapes Go.WideShapes Go.ChangeAt Go.RowKit
set_option linter.unusedVariables false

/-- A call that returns v and leaves all that was there. -/
def Ans (v : Value) (w : World) (e : Ending) (w' : World) : Prop := e = .returned v ∧ Below w.heap.size w w'

theorem bcell {W w1 : World} (hb : Below W.heap.size W w1) : (∀ b o, b < W.heap.size → w1.cell? ⟨b, o, none⟩ = W.cell? ⟨b, o, none⟩) ∧ (∀ b o, b < W.heap.size → w1.frozen? ⟨b, o, none⟩ = W.frozen? ⟨b, o, none⟩) :=
  ⟨fun b o h => hb.cell (p := ⟨b, o, none⟩) h, fun b o h => hb.frozen (p := ⟨b, o, none⟩) h⟩

theorem along_facts {a b t : Int} (a0 : -200 ≤ a) (a1 : a ≤ 200) (b0 : -200 ≤ b) (b1 : b ≤ 200) (t0 : 0 ≤ t) (t1 : t ≤ 1024) :
    (0 ≤ 3 * (1024 - t) * (1024 - t) ∧ 3 * (1024 - t) * (1024 - t) ≤ 3145728) ∧ (0 ≤ 3 * (1024 - t) * (1024 - t) * t ∧ 3 * (1024 - t) * (1024 - t) * t ≤ 3221225472)
    ∧ (-644245094400 ≤ 3 * (1024 - t) * (1024 - t) * t * a ∧ 3 * (1024 - t) * (1024 - t) * t * a ≤ 644245094400)
    ∧ (0 ≤ 3 * (1024 - t) * t ∧ 3 * (1024 - t) * t ≤ 3145728) ∧ (0 ≤ 3 * (1024 - t) * t * t ∧ 3 * (1024 - t) * t * t ≤ 3221225472)
    ∧ (-644245094400 ≤ 3 * (1024 - t) * t * t * b ∧ 3 * (1024 - t) * t * t * b ≤ 644245094400)
    ∧ (0 ≤ 100 * t * t ∧ 100 * t * t ≤ 104857600) ∧ (0 ≤ 100 * t * t * t ∧ 100 * t * t * t ≤ 107374182400) := by
  have h1 := mul_bd (x := 3 * (1024 - t)) (y := 1024 - t) (m := 3072) (k := 1024) (by omega) (by omega) (by omega) (by omega) (by omega) (by omega)
  have h1' := Int.mul_nonneg (show 0 ≤ 3 * (1024 - t) by omega) (show 0 ≤ 1024 - t by omega)
  have h2 := mul_bd (x := 3 * (1024 - t) * (1024 - t)) (y := t) (m := 3145728) (k := 1024) (by omega) (by omega) (by omega) (by omega) (by omega) (by omega)
  have h2' := Int.mul_nonneg h1' t0
  have h3 := mul_bd (x := 3 * (1024 - t) * (1024 - t) * t) (y := a) (m := 3221225472) (k := 200) (by omega) (by omega) (by omega) (by omega) (by omega) (by omega)
  have h4 := mul_bd (x := 3 * (1024 - t)) (y := t) (m := 3072) (k := 1024) (by omega) (by omega) (by omega) (by omega) (by omega) (by omega)
  have h4' := Int.mul_nonneg (show 0 ≤ 3 * (1024 - t) by omega) t0
  have h5 := mul_bd (x := 3 * (1024 - t) * t) (y := t) (m := 3145728) (k := 1024) (by omega) (by omega) (by omega) (by omega) (by omega) (by omega)
  have h5' := Int.mul_nonneg h4' t0
  have h6 := mul_bd (x := 3 * (1024 - t) * t * t) (y := b) (m := 3221225472) (k := 200) (by omega) (by omega) (by omega) (by omega) (by omega) (by omega)
  have h7 := mul_bd (x := 100 * t) (y := t) (m := 102400) (k := 1024) (by omega) (by omega) (by omega) (by omega) (by omega) (by omega)
  have h7' := Int.mul_nonneg (show 0 ≤ 100 * t by omega) t0
  have h8 := mul_bd (x := 100 * t * t) (y := t) (m := 104857600) (k := 1024) (by omega) (by omega) (by omega) (by omega) (by omega) (by omega)
  have h8' := Int.mul_nonneg h7' t0
  omega

theorem along_far {a b t : Int} (a0 : -200 ≤ a) (a1 : a ≤ 200) (b0 : -200 ≤ b) (b1 : b ≤ 200) (t0 : 0 ≤ t) (t1 : t ≤ 1024) : -1288490188800 ≤ along a b t ∧ along a b t ≤ 1395864371200 := by
  have := along_facts a0 a1 b0 b1 t0 t1
  unfold along; omega

set_option maxHeartbeats 400000 in
theorem CurveOk_spec (x1 y1 x2 y2 : Int) (w : World) :
    Calls Tryd.prog 53 #[.agg #[.int .i64 x1, .int .i64 y1, .int .i64 x2, .int .i64 y2]] w (Ans (.bool (curveOk x1 y1 x2 y2)) w) := by
  have Hk := Lib.hid (show curveOk x1 y1 x2 y2 = (within x1 0 100 && within x2 0 100 && within y1 (-100) 200 && within y2 (-100) 200) from rfl)
  cases h1 : within x1 0 100 <;> cases h2 : within x2 0 100 <;> cases h3 : within y1 (-100) 200
  all_goals
    go_enter Tryd.func53, Tryd.ntmps53
    go_wp2_with (go_at_call 65; refine (in_spec _ _ _ _).mono ?_; rintro e w' ⟨rfl, rfl⟩)
    go_ret
    exact ⟨by rw [Hk.out]; simp [h1, h2, h3], (Below.refl _ _).alloc (Nat.le_refl _) _⟩

theorem cornersOf_impl (x1 y1 x2 y2 : Int) (w : World) :
    Calls Tryd.prog 66 #[.agg #[.int .i64 x1, .int .i64 y1, .int .i64 x2, .int .i64 y2]] w (Ans (.agg #[.int .i64 x1, .int .i64 y1, .int .i64 x2, .int .i64 y2]) w) := by
  go_enter Tryd.func66, Tryd.ntmps66
  go_wp2
  exact bodyPost_ret (v := .agg #[.int .i64 x1, .int .i64 y1, .int .i64 x2, .int .i64 y2]) (by simp [results, Tryd.results66, go_sem]) rfl ⟨rfl, ((Below.refl _ _).alloc (Nat.le_refl _) _).alloc (by simp) _⟩

theorem pull_lo {n lo hi : Int} (h : n < lo) (hh : lo ≤ hi) : lo = pull n lo hi := by unfold pull; omega
theorem pull_hi {n lo hi : Int} (h : hi < n) (hh : lo ≤ hi) : hi = pull n lo hi := by unfold pull; omega
theorem pull_in {n lo hi : Int} (h : lo ≤ n) (hh : n ≤ hi) : n = pull n lo hi := by unfold pull; omega

theorem pulledIn_impl (x y : Int) (w : World) :
    Calls Tryd.prog 67 #[.agg #[.int .i64 x, .int .i64 y]] w (Ans (.agg #[.int .i64 (pull x 0 100), .int .i64 (pull y (-100) 200)]) w) := by
  go_enter Tryd.func67, Tryd.ntmps67
  go_wp2
  all_goals
    exact bodyPost_ret (v := .agg #[.int .i64 (pull x 0 100), .int .i64 (pull y (-100) 200)]) (by simp [results, Tryd.results67, go_sem]; unfold pull; omega) rfl ⟨rfl, ((Below.refl _ _).alloc (Nat.le_refl _) _).alloc (by simp) _⟩

theorem curveOk_pull (x1 y1 x2 y2 : Int) : curveOk x1 y1 x2 y2 = (((x1 == pull x1 0 100) && (y1 == pull y1 (-100) 200)) && ((x2 == pull x2 0 100) && (y2 == pull y2 (-100) 200))) := by
  have e (n lo hi : Int) (h : lo ≤ hi) : (n == pull n lo hi) = within n lo hi := by
    rw [Bool.eq_iff_iff, beq_iff_eq]; exact pull_same h
  rw [e _ _ _ (by omega), e _ _ _ (by omega), e _ _ _ (by omega), e _ _ _ (by omega)]
  unfold curveOk
  cases within x1 0 100 <;> cases within x2 0 100 <;> cases within y1 (-100) 200 <;> cases within y2 (-100) 200 <;> rfl

/-- A block of four numbers that the call has made, and all below is as it was. -/
theorem four_new {w w1 : World} {o : Obj} (x1 y1 x2 y2 : Int) (t : TypeId) (hb : Below (w.alloc o).heap.size (w.alloc o) w1) :
    (w1.alloc (.cells #[.int .i64 x1, .int .i64 y1, .int .i64 x2, .int .i64 y2] t)).cell? ⟨w1.heap.size, 0, none⟩ = some (.int .i64 x1)
    ∧ (w1.alloc (.cells #[.int .i64 x1, .int .i64 y1, .int .i64 x2, .int .i64 y2] t)).cell? ⟨w1.heap.size, 1, none⟩ = some (.int .i64 y1)
    ∧ (w1.alloc (.cells #[.int .i64 x1, .int .i64 y1, .int .i64 x2, .int .i64 y2] t)).cell? ⟨w1.heap.size, 2, none⟩ = some (.int .i64 x2)
    ∧ (w1.alloc (.cells #[.int .i64 x1, .int .i64 y1, .int .i64 x2, .int .i64 y2] t)).cell? ⟨w1.heap.size, 3, none⟩ = some (.int .i64 y2)
    ∧ Below w.heap.size w (w1.alloc (.cells #[.int .i64 x1, .int .i64 y1, .int .i64 x2, .int .i64 y2] t))
    ∧ w1.heap.size < (w1.alloc (.cells #[.int .i64 x1, .int .i64 y1, .int .i64 x2, .int .i64 y2] t)).heap.size
    ∧ w.heap.size ≤ w1.heap.size := by
  have hs := hb.size
  simp at hs
  exact ⟨by simp, by simp, by simp, by simp, (((Below.refl _ _).alloc (Nat.le_refl _) _).trans (hb.mono (by simp))).alloc (by omega) _, by simp, by omega⟩

theorem Below.call {B : Nat} {a w w1 : World} (h : Below B a w) (g : Below w.heap.size w w1) (hB : B ≤ w.heap.size) : Below B a w1 := h.trans (g.mono hB)

theorem held4_drew {w w' : World} {c : Nat} {v0 v1 v2 v3 : Value} (c0 : w'.cell? ⟨c, 0, none⟩ = some v0) (c1 : w'.cell? ⟨c, 1, none⟩ = some v1) (c2 : w'.cell? ⟨c, 2, none⟩ = some v2) (c3 : w'.cell? ⟨c, 3, none⟩ = some v3) (hl : c < w'.heap.size) (hB : Below w.heap.size w w') :
    w'.drew.cell? ⟨c, 0, none⟩ = some v0 ∧ w'.drew.cell? ⟨c, 1, none⟩ = some v1 ∧ w'.drew.cell? ⟨c, 2, none⟩ = some v2 ∧ w'.drew.cell? ⟨c, 3, none⟩ = some v3 ∧ c < w'.drew.heap.size ∧ Below w.heap.size w w'.drew :=
  ⟨c0, c1, c2, c3, hl, ⟨hB.os, hB.tape, hB.output, hB.size, hB.block⟩⟩

theorem held4_call {w w' w2 : World} {c : Nat} {v0 v1 v2 v3 : Value} (g : Below w'.heap.size w' w2) (c0 : w'.cell? ⟨c, 0, none⟩ = some v0) (c1 : w'.cell? ⟨c, 1, none⟩ = some v1) (c2 : w'.cell? ⟨c, 2, none⟩ = some v2) (c3 : w'.cell? ⟨c, 3, none⟩ = some v3) (hl : c < w'.heap.size) (hB : Below w.heap.size w w') :
    w2.cell? ⟨c, 0, none⟩ = some v0 ∧ w2.cell? ⟨c, 1, none⟩ = some v1 ∧ w2.cell? ⟨c, 2, none⟩ = some v2 ∧ w2.cell? ⟨c, 3, none⟩ = some v3 ∧ c < w2.heap.size ∧ Below w.heap.size w w2 :=
  ⟨(g.cell (p := ⟨c, 0, none⟩) hl).trans c0, (g.cell (p := ⟨c, 1, none⟩) hl).trans c1, (g.cell (p := ⟨c, 2, none⟩) hl).trans c2, (g.cell (p := ⟨c, 3, none⟩) hl).trans c3, Nat.lt_of_lt_of_le hl g.size, hB.trans (g.mono hB.size)⟩

theorem eq_corner (d : Nat) (a b c e : Int) (w : World) : (Op.equalIn (d + 1 + 1) 102 (.agg #[.int .i64 a, .int .i64 b]) (.agg #[.int .i64 c, .int .i64 e])).run Tryd.prog w = .ok (a == c && b == e) w := by
  have u3 := Tryd.underlying2
  have a3 := Tryd.isAgg2
  have z3 := Tryd.sizeOf2
  rw [Op.equalIn]
  simp only [Sem.run_bind, run_underlying Tryd.underlying102, Result.andThen_ok]
  simp only [Std.Legacy.Range.forIn_eq_forIn_range', Std.Legacy.Range.size, Nat.sub_zero, Nat.add_sub_cancel, Nat.div_one, List.range'_succ, List.range'_zero, List.forIn_cons, List.forIn_nil]
  go_simp
  by_cases h1 : a = c <;> by_cases h2 : b = e <;> simp [h1, h2]

theorem eq_corners (x1 y1 x2 y2 u1 v1 u2 v2 : Int) (w : World) : (Op.equalIn 10000 103 (.agg #[.int .i64 x1, .int .i64 y1, .int .i64 x2, .int .i64 y2]) (.agg #[.int .i64 u1, .int .i64 v1, .int .i64 u2, .int .i64 v2])).run Tryd.prog w = .ok ((x1 == u1 && y1 == v1) && (x2 == u2 && y2 == v2)) w := by
  have u3 := Tryd.underlying102
  have a3 := Tryd.isAgg102
  have z3 := Tryd.sizeOf102
  have hc (a b c e : Int) (w : World) := eq_corner 9997 a b c e w
  rw [show (10000 : Nat) = 9999 + 1 from rfl, Op.equalIn]
  simp only [Sem.run_bind, run_underlying Tryd.underlying103, Result.andThen_ok]
  simp only [Std.Legacy.Range.forIn_eq_forIn_range', Std.Legacy.Range.size, Nat.sub_zero, Nat.add_sub_cancel, Nat.div_one, List.range'_succ, List.range'_zero, List.forIn_cons, List.forIn_nil]
  go_simp
  by_cases h1 : x1 = u1 <;> by_cases h2 : y1 = v1 <;> by_cases h3 : x2 = u2 <;> by_cases h4 : y2 = v2 <;> simp [h1, h2, h3, h4]

set_option maxHeartbeats 1000000 in
theorem CurveOk_impl (x1 y1 x2 y2 : Int) (w : World) :
    Calls Tryd.prog 56 #[.agg #[.int .i64 x1, .int .i64 y1, .int .i64 x2, .int .i64 y2]] w (Ans (.bool (curveOk x1 y1 x2 y2)) w) := by
  have Hk := Lib.hid (curveOk_pull x1 y1 x2 y2)
  go_enter Tryd.func56, Tryd.ntmps56
  go_wp2_with (go_at_call 66; refine (cornersOf_impl _ _ _ _ _).mono ?_; rintro e w1 ⟨rfl, hb1⟩)
  obtain ⟨c0, c1, c2, c3, hB, hlt, hle⟩ := four_new x1 y1 x2 y2 103 hb1
  clear hb1
  generalize w1.alloc (.cells #[.int .i64 x1, .int .i64 y1, .int .i64 x2, .int .i64 y2] 103) = W at *
  generalize w1.heap.size = c at *
  clear w1
  have heq := fun w' => eq_corners x1 y1 x2 y2 (pull x1 0 100) (pull y1 (-100) 200) (pull x2 0 100) (pull y2 (-100) 200) w'
  go_region_held3 (fun w' => w'.cell? ⟨c, 0, none⟩ = some (.int .i64 x1) ∧ w'.cell? ⟨c, 1, none⟩ = some (.int .i64 y1) ∧ w'.cell? ⟨c, 2, none⟩ = some (.int .i64 x2) ∧ w'.cell? ⟨c, 3, none⟩ = some (.int .i64 y2) ∧ c < w'.heap.size ∧ Below w.heap.size w w')
    (first | exact held4_drew c0 c1 c2 c3 hlt hB | (go_split_ands; exact held4_call hb' (by assumption) (by assumption) (by assumption) (by assumption) (by assumption) (by assumption)))
    (first | (go_at_call 67; refine (pulledIn_impl _ _ _).mono ?_; rintro e w' ⟨rfl, hb'⟩))
  rename_i hS
  obtain ⟨_, _, _, _, _, hB'⟩ := hS
  clear heq
  go_wp2
  go_ret
  exact ⟨by rw [Hk.out]; rfl, hB'⟩

end Go.Proofs.YtmaagcmbofedhaaDoor.B2
