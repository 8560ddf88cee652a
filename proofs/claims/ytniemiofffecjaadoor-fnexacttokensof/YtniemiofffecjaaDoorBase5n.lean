/- Contracts of the laws' own helpers on tokens: toToken, szToken, eqToken. -/
import Derived.Test.YtniemiofffecjaaDoorBase5m
namespace Go.Proofs.YtniemiofffecjaaDoor.B5
open Go.Proofs.YtniemiofffecjaaDoor.P1 Go.Proofs.YtniemiofffecjaaDoor.B1 Go.Proofs.YtniemiofffecjaaDoor.B2 Go.Proofs.YtniemiofffecjaaDoor.T1 Go.Proofs.YtniemiofffecjaaDoor.BT Go.Proofs.YtniemiofffecjaaDoor.P5 Go.Proofs.YtniemiofffecjaaDoor.D1
open Go.ChangeShapes Go.WideShapes Go.ChangeAt Go.RowKit
set_option linter.unusedVariables false

theorem below_two2 (w : World) (o1 o2 : Obj) : Below w.heap.size w ((w.alloc o1).alloc o2) :=
  let h1 := (Below.refl w.heap.size w).alloc (Nat.le_refl _) o1
  h1.alloc h1.size o2

theorem below_three (w : World) (o1 o2 o3 : Obj) : Below w.heap.size w (((w.alloc o1).alloc o2).alloc o3) :=
  let h1 := (Below.refl w.heap.size w).alloc (Nat.le_refl _) o1
  let h2 := h1.alloc h1.size o2
  h2.alloc h2.size o3

set_option maxHeartbeats 1000000 in
theorem toToken_laws (x : Tok) (w : World) : Calls Tryd.prog 24 #[tokV x] w (Ans (tokV x) w) := by
  obtain ⟨k, t, n⟩ := x
  unfold tokV
  dsimp only
  go_enter Tryd.func24, Tryd.ntmps24
  go_wp2
  exact bodyPost_ret (v := .agg #[.int .i64 k, .string ⟨t.toArray⟩, .int .i64 n]) (by simp [results, Tryd.results24, go_sem]) rfl ⟨rfl, below_three _ _ _ _⟩

theorem szToken_laws (x : Tok) (left : Int) (w : World) (h0 : 0 ≤ left) (h1 : left ≤ 1048576) (hl : x.t.length ≤ 9223372036854775807) :
    Calls Tryd.prog 23 #[tokV x, .int .i64 left] w (Ans (.int .i64 (if (x.t.length : Int) ≤ left then left - x.t.length else -1)) w) := by
  obtain ⟨k, t, n⟩ := x
  unfold tokV
  dsimp only at hl ⊢
  obtain ⟨L, eL⟩ : ∃ L, t.length = L := ⟨_, rfl⟩
  have hlen := fun (w' : World) (ty : TypeId) => str_lenN t L eL w' ty
  rw [eL] at hl ⊢
  have hw : IntKind.i64.wrap (left - (L : Int)) = left - (L : Int) := by rw [IntKind.wrap_i64]; omega
  clear eL
  by_cases hle : (L : Int) ≤ left
  · have hn : ¬ left - (L : Int) < 0 := by omega
    rw [if_pos hle]
    go_enter Tryd.func23, Tryd.ntmps23
    go_wp2
    go_ret
    exact ⟨rfl, (Below.refl _ _).alloc (Nat.le_refl _) _⟩
  · have hn : left - (L : Int) < 0 := by omega
    rw [if_neg hle]
    go_enter Tryd.func23, Tryd.ntmps23
    go_wp2
    go_ret
    exact ⟨rfl, (Below.refl _ _).alloc (Nat.le_refl _) _⟩

set_option maxHeartbeats 1000000 in
theorem eqToken_laws (x y : Tok) (w : World) : Calls Tryd.prog 46 #[tokV x, tokV y] w (Ans (.bool (x.same y)) w) := by
  have Hs := Lib.hid (show x.same y = (x.k == y.k && x.t == y.t && x.n == y.n) from rfl)
  obtain ⟨k, t, n⟩ := x
  obtain ⟨k', t', n'⟩ := y
  unfold tokV
  dsimp only at Hs ⊢
  cases h1 : k == k'
  · rw [h1] at Hs
    go_enter Tryd.func46, Tryd.ntmps46
    go_wp2
    go_ret
    exact ⟨by rw [Hs.out]; rfl, below_two2 _ _ _⟩
  · rw [h1] at Hs
    cases h2 : t == t'
    · rw [h2] at Hs
      go_enter Tryd.func46, Tryd.ntmps46
      go_wp2
      go_ret
      exact ⟨by rw [Hs.out]; rfl, below_two2 _ _ _⟩
    · rw [h2] at Hs
      cases h3 : n == n'
      · rw [h3] at Hs
        go_enter Tryd.func46, Tryd.ntmps46
        go_wp2
        go_ret
        exact ⟨by rw [Hs.out]; rfl, below_two2 _ _ _⟩
      · rw [h3] at Hs
        go_enter Tryd.func46, Tryd.ntmps46
        go_wp2
        go_ret
        exact ⟨by rw [Hs.out]; rfl, below_two2 _ _ _⟩

end Go.Proofs.YtniemiofffecjaaDoor.B5
