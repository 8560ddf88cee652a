/- Contracts of chapter 5's functions (tokens): the reference's l5Text, TokenOk. -/
import Derived.Test.YtniemiofffecjaaDoorBase5g
import Derived.Test.YtniemiofffecjaaDoorLoc
import Derived.Deep.RegionHeld3
namespace Go.Proofs.YtniemiofffecjaaDoor.B5
open Go.Proofs.YtniemiofffecjaaDoor.P1 Go.Proofs.YtniemiofffecjaaDoor.B1 Go.Proofs.YtniemiofffecjaaDoor.B2 Go.Proofs.YtniemiofffecjaaDoor.T1 Go.Proofs.YtniemiofffecjaaDoor.BT Go.Proofs.YtniemiofffecjaaDoor.P5 Go.Proofs.YtniemiofffecjaaDoor.D1
open Go.ChangeShapes Go.WideShapes Go.ChangeAt Go.RowKit
set_option linter.unusedVariables false

theorem str_addT (x y s : List UInt8) (h : x ++ y = s) (hl : s.length ≤ 4000000) (w : World) : (Op.stringOp .add ⟨x.toArray⟩ ⟨y.toArray⟩).run Tryd.prog w = .ok (.string ⟨s.toArray⟩) w := by
  subst h
  exact str_add x y w (by simp at hl; omega)

theorem held12_drew {w w' : World} {b : Nat} {v1 v2 : Value} (c1 : w'.cell? ⟨b, 1, none⟩ = some v1) (c2 : w'.cell? ⟨b, 2, none⟩ = some v2) (hl : b < w'.heap.size) (hB : Below w.heap.size w w') :
    w'.drew.cell? ⟨b, 1, none⟩ = some v1 ∧ w'.drew.cell? ⟨b, 2, none⟩ = some v2 ∧ b < w'.drew.heap.size ∧ Below w.heap.size w w'.drew :=
  ⟨c1, c2, hl, ⟨hB.os, hB.tape, hB.output, hB.size, hB.block⟩⟩

theorem held12_call {w w' w2 : World} {b : Nat} {v1 v2 : Value} (h : Below w'.heap.size w' w2) (c1 : w'.cell? ⟨b, 1, none⟩ = some v1) (c2 : w'.cell? ⟨b, 2, none⟩ = some v2) (hl : b < w'.heap.size) (hB : Below w.heap.size w w') :
    w2.cell? ⟨b, 1, none⟩ = some v1 ∧ w2.cell? ⟨b, 2, none⟩ = some v2 ∧ b < w2.heap.size ∧ Below w.heap.size w w2 :=
  ⟨(h.cell (p := ⟨b, 1, none⟩) hl).trans c1, (h.cell (p := ⟨b, 2, none⟩) hl).trans c2, Nat.lt_of_lt_of_le hl h.size, hB.trans (h.mono hB.size)⟩

theorem three_new {w w1 : World} (v0 v1 v2 : Value) (t : TypeId) (hb : Below w.heap.size w w1) :
    (w1.alloc (.cells #[v0, v1, v2] t)).cell? ⟨w1.heap.size, 0, none⟩ = some v0 ∧ (w1.alloc (.cells #[v0, v1, v2] t)).cell? ⟨w1.heap.size, 1, none⟩ = some v1 ∧ (w1.alloc (.cells #[v0, v1, v2] t)).cell? ⟨w1.heap.size, 2, none⟩ = some v2 ∧ w1.heap.size < (w1.alloc (.cells #[v0, v1, v2] t)).heap.size ∧ Below w.heap.size w (w1.alloc (.cells #[v0, v1, v2] t)) :=
  ⟨by simp, by simp, by simp, by simp, hb.alloc hb.size _⟩

theorem text_kinds (x : Tok) : (x.k = 2 ∨ x.k = 3) ∨ x.k = 4 ∨ x.k = 5 ∨ (x.k ≠ 2 ∧ x.k ≠ 3 ∧ x.k ≠ 4 ∧ x.k ≠ 5) := by omega

theorem itoa_short {n : Int} (h0 : -9223372036854775808 ≤ n) (h1 : n ≤ 9223372036854775807) : (Lib.itoa n).length ≤ 21 := by
  unfold Lib.itoa
  split
  · have := dec_length n.natAbs 19 (by omega)
    simp; omega
  · have := dec_length n.toNat 19 (by omega)
    omega

set_option maxHeartbeats 2000000 in
theorem Text_spec (x : Tok) (w : World) (h0 : -9223372036854775808 ≤ x.n) (h1 : x.n ≤ 9223372036854775807) (hl : x.t.length ≤ 1048576) :
    Calls Tryd.prog 42 #[tokV x] w (Ans (.string ⟨(tokText x).toArray⟩) w) := by
  obtain ⟨k, t, n⟩ := x
  have hkind := text_kinds ⟨k, t, n⟩
  unfold tokV
  dsimp only at h0 h1 hl hkind ⊢
  rcases hkind with hk | rfl | rfl | ⟨k2, k3, k4, k5⟩
  · have il := itoa_short h0 h1
    obtain ⟨s, es⟩ : ∃ s, Lib.itoa n ++ t = s := ⟨_, rfl⟩
    have hadd := str_addT _ _ _ es (by rw [← es, List.length_append]; omega)
    have Hx := Lib.hid (show tokText ⟨k, t, n⟩ = s by unfold tokText; rw [if_pos hk]; exact es)
    have hk2 : (k == 2) = true ∨ ((k == 2) = false ∧ (k == 3) = true) := by
      rcases hk with rfl | rfl
      · exact Or.inl rfl
      · exact Or.inr ⟨rfl, rfl⟩
    clear es hk il
    rcases hk2 with hk2 | ⟨hk2, hk3⟩
    all_goals
      go_enter Tryd.func42, Tryd.ntmps42
      have hn := three_new (.int .i64 k) (.string ⟨t.toArray⟩) (.int .i64 n) 29 (Below.refl w.heap.size w)
      go_wp2_with fail
      obtain ⟨_, c1, c2, hlt, hB⟩ := hn
      generalize w.alloc (.cells #[.int .i64 k, .string ⟨t.toArray⟩, .int .i64 n] 29) = W at *
      generalize hbz : w.heap.size = b at c1 c2 hlt ⊢
      clear hbz
      go_region_held3 (fun w' => w'.cell? ⟨b, 1, none⟩ = some (.string ⟨t.toArray⟩) ∧ w'.cell? ⟨b, 2, none⟩ = some (.int .i64 n) ∧ b < w'.heap.size ∧ Below w.heap.size w w')
        (first | with_reducible exact held12_drew c1 c2 hlt hB | (go_split_ands; with_reducible exact held12_call hb' (by assumption) (by assumption) (by assumption) (by assumption)))
        (first | (go_at_call 61; refine (Int_spec _ _ ⟨by omega, by omega⟩).mono ?_; rintro e w' ⟨rfl, hb'⟩))
      rename_i hS
      obtain ⟨_, _, _, hB'⟩ := hS
      clear hadd
      go_wp2
      go_ret
      exact ⟨by rw [Hx.out]; rfl, hB'⟩
  · obtain ⟨s, es⟩ : ∃ s, [35] ++ t = s := ⟨_, rfl⟩
    have hadd := str_addT _ _ _ es (by rw [← es, List.length_append]; simp; omega)
    have Hx := Lib.hid (show tokText ⟨4, t, n⟩ = s by rw [← es]; rfl)
    clear es
    go_enter Tryd.func42, Tryd.ntmps42
    go_wp2
    go_ret
    exact ⟨by rw [Hx.out]; rfl, (Below.refl _ _).alloc (Nat.le_refl _) _⟩
  · have Hx := Lib.hid (show tokText ⟨5, t, n⟩ = [32] from rfl)
    go_enter Tryd.func42, Tryd.ntmps42
    go_wp2
    go_ret
    exact ⟨by rw [Hx.out]; rfl, (Below.refl _ _).alloc (Nat.le_refl _) _⟩
  · have Hx := Lib.hid (show tokText ⟨k, t, n⟩ = t by unfold tokText; rw [if_neg (by simp [k2, k3]), if_neg k4, if_neg k5])
    have e2 : (k == 2) = false := by simpa using k2
    have e3 : (k == 3) = false := by simpa using k3
    have e4 : (k == 4) = false := by simpa using k4
    have e5 : (k == 5) = false := by simpa using k5
    go_enter Tryd.func42, Tryd.ntmps42
    go_wp2
    go_ret
    exact ⟨by rw [Hx.out]; rfl, (Below.refl _ _).alloc (Nat.le_refl _) _⟩

theorem eq_token (k n k' n' : Int) (t t' : List UInt8) (w : World) : (Op.equalIn 10000 29 (.agg #[.int .i64 k, .string ⟨t.toArray⟩, .int .i64 n]) (.agg #[.int .i64 k', .string ⟨t'.toArray⟩, .int .i64 n'])).run Tryd.prog w = .ok (Tok.same ⟨k, t, n⟩ ⟨k', t', n'⟩) w := by
  have u3 := Tryd.underlying2
  have a3 := Tryd.isAgg2
  have z3 := Tryd.sizeOf2
  have u9 := Tryd.underlying9
  have a9 := Tryd.isAgg9
  have z9 := Tryd.sizeOf9
  unfold Tok.same
  by_cases h1 : k = k' <;> by_cases h2 : t = t' <;> by_cases h3 : n = n'
  all_goals go_simp

end Go.Proofs.YtniemiofffecjaaDoor.B5
