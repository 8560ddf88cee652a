/- Contracts of the laws' own helpers on values: toValue, szValue, eqValue. How an argument of type Value is opened. -/
import Derived.Test.YtgaggpnlimchkaaGreatDoorBase6
import Derived.Test.YtgaggpnlimchkaaGreatDoorBase5n
import Derived.Test.YtgaggpnlimchkaaGreatDoorRows
import Derived.OpenShut
import Derived.Lib.SmallJoins
namespace Go.Proofs.YtgaggpnlimchkaaGreatDoor.B6
open Go.Proofs.YtgaggpnlimchkaaGreatDoor.P1 Go.Proofs.YtgaggpnlimchkaaGreatDoor.B1 Go.Proofs.YtgaggpnlimchkaaGreatDoor.B2 Go.Proofs.YtgaggpnlimchkaaGreatDoor.T1 Go.Proofs.YtgaggpnlimchkaaGreatDoor.BT Go.Proofs.YtgaggpnlimchkaaGreatDoor.P5 Go.Proofs.YtgaggpnlimchkaaGreatDoor.P6 Go.Proofs.YtgaggpnlimchkaaGreatDoor.B5
open Go.Joins Go.ChangeShapes Go.WideShapes Go.ChangeAt Go.RowKit Go.Deep
set_option linter.unusedVariables false

set_option maxRecDepth 20000 in
set_option maxHeartbeats 2000000 in
theorem toValue_laws (v : Va) (w : World) : Calls Tryz.prog 113 #[valV v] w (Ans (valV v) w) := by
  obtain ⟨k, n, r, g, b, c, t⟩ := v
  unfold valV
  dsimp only
  go_enter Tryz.func113, Tryz.ntmps113
  go_wp2
  exact bodyPost_ret (v := .agg #[.int .i64 k, .int .i64 n, .int .i64 r, .int .i64 g, .int .i64 b, .int .i64 c, .string ⟨t.toArray⟩]) (by simp [results, Tryz.results113, go_sem]) rfl ⟨rfl, below_three _ _ _ _⟩

theorem szValue_laws (v : Va) (left : Int) (w : World) (h0 : 0 ≤ left) (h1 : left ≤ 1048576) (hl : v.w.length ≤ 9223372036854775807) :
    Calls Tryz.prog 112 #[valV v, .int .i64 left] w (Ans (.int .i64 (if (v.w.length : Int) ≤ left then left - v.w.length else -1)) w) := by
  obtain ⟨k, n, r, g, b, c, t⟩ := v
  unfold valV
  dsimp only at hl ⊢
  obtain ⟨L, eL⟩ : ∃ L, t.length = L := ⟨_, rfl⟩
  have hlen := fun (w' : World) (ty : TypeId) => str_lenN t L eL w' ty
  rw [eL] at hl ⊢
  have hw : IntKind.i64.wrap (left - (L : Int)) = left - (L : Int) := by rw [IntKind.wrap_i64]; omega
  clear eL
  by_cases hle : (L : Int) ≤ left
  · have hn : ¬ left - (L : Int) < 0 := by omega
    rw [if_pos hle]
    go_enter Tryz.func112, Tryz.ntmps112
    go_wp2
    go_ret
    exact ⟨rfl, (Below.refl _ _).alloc (Nat.le_refl _) _⟩
  · have hn : left - (L : Int) < 0 := by omega
    rw [if_neg hle]
    go_enter Tryz.func112, Tryz.ntmps112
    go_wp2
    go_ret
    exact ⟨rfl, (Below.refl _ _).alloc (Nat.le_refl _) _⟩

theorem vsame_refl (v : Va) : v.same v = true := Va.same_iff.2 rfl

/-- A value is like itself. -/
theorem eqValue_self (v : Va) (w : World) : Calls Tryz.prog 114 #[valV v, valV v] w (Ans (.bool true) w) := by
  obtain ⟨k, n, r, g, b, c, t⟩ := v
  unfold valV
  dsimp only
  have h1 : (k == k) = true := by simp
  have h2 : (n == n) = true := by simp
  have h3 : (r == r) = true := by simp
  have h4 : (g == g) = true := by simp
  have h5 : (b == b) = true := by simp
  have h6 : (c == c) = true := by simp
  have h7 : (t == t) = true := by simp
  go_enter Tryz.func114, Tryz.ntmps114
  go_wp2
  go_ret
  exact ⟨rfl, below_two2 _ _ _⟩

theorem seven_of {cs : Array Value} (h : cs.size = 7) : ∃ c0 c1 c2 c3 c4 c5 c6, cs = #[c0, c1, c2, c3, c4, c5, c6] := by
  obtain ⟨l⟩ := cs
  match l, h with
  | [c0, c1, c2, c3, c4, c5, c6], _ => exact ⟨c0, c1, c2, c3, c4, c5, c6, rfl⟩

theorem trod_struct7 {H : Type} {enc : TypeId × Value → H} {P : Program} {w : World} {base : Nat} {spare : Nat → Bool} {held : Bool} {t : TypeId} {f0 f1 f2 f3 f4 f5 f6 : Field} {fuel : Nat} {cs : List Value} {x : DataW H × List MemPlace} (ht : P.underlying t = some (.struct #[f0, f1, f2, f3, f4, f5, f6])) (h : DataW.trod enc P w base spare held fuel t cs = some x) :
    ∃ y0 y1 y2 y3 y4 y5 y6 n, DataW.trod enc P w base spare held n f0.type ((cs.drop f0.offset).take (P.cellsOf f0.type)) = some y0 ∧ DataW.trod enc P w base spare held n f1.type ((cs.drop f1.offset).take (P.cellsOf f1.type)) = some y1 ∧ DataW.trod enc P w base spare held n f2.type ((cs.drop f2.offset).take (P.cellsOf f2.type)) = some y2 ∧ DataW.trod enc P w base spare held n f3.type ((cs.drop f3.offset).take (P.cellsOf f3.type)) = some y3 ∧ DataW.trod enc P w base spare held n f4.type ((cs.drop f4.offset).take (P.cellsOf f4.type)) = some y4 ∧ DataW.trod enc P w base spare held n f5.type ((cs.drop f5.offset).take (P.cellsOf f5.type)) = some y5 ∧ DataW.trod enc P w base spare held n f6.type ((cs.drop f6.offset).take (P.cellsOf f6.type)) = some y6 := by
  obtain ⟨xs, n, _, rfl, hl, hlen, hf⟩ := DataW.trod_struct ht h
  match xs, hlen with
  | [y0, y1, y2, y3, y4, y5, y6], _ => exact ⟨y0, y1, y2, y3, y4, y5, y6, n, by simpa using hf 0 f0 rfl, by simpa using hf 1 f1 rfl, by simpa using hf 2 f2 rfl, by simpa using hf 3 f3 rfl, by simpa using hf 4 f4 rfl, by simpa using hf 5 f5 rfl, by simpa using hf 6 f6 rfl⟩

set_option maxRecDepth 100000 in
theorem open_value {H : Type} {enc : TypeId × Value → H} {W : World} {base b0 : Nat} {spare : Nat → Bool} {held : Bool} {v : Value} {d : DataW H} {p : List MemPlace}
    (hv : Value.okWide Tryz.prog W .any b0 117 v) (h : DataW.Trod enc Tryz.prog W base spare held 117 v d p) : ∃ x : Va, v = valV x ∧ x.w.length ≤ 9223372036854775807 := by
  have k1 : Tryz.prog.cellsOf 2 = 1 := by kernel_rfl
  have k9 : Tryz.prog.cellsOf 9 = 1 := by kernel_rfl
  have k7 : Tryz.prog.cellsOf 117 = 7 := by kernel_rfl
  obtain ⟨cs, rfl, hsz⟩ := okWide_struct Tryz.underlying117 hv
  obtain ⟨c0, c1, c2, c3, c4, c5, c6, rfl⟩ := seven_of (hsz.trans k7)
  obtain ⟨fuel, hf⟩ := h
  obtain ⟨u0, u1, u2, u3, u4, u5, u6, n, t0, t1, t2, t3, t4, t5, t6⟩ := trod_struct7 Tryz.underlying117 hf
  simp only [Value.cells, k1, k9, List.drop_zero, List.drop_succ_cons, List.take_succ_cons, List.take_zero] at t0 t1 t2 t3 t4 t5 t6
  obtain ⟨a0, e0, _, _⟩ := DataW.trod_int Tryz.underlying2 t0
  obtain ⟨a1, e1, _, _⟩ := DataW.trod_int Tryz.underlying2 t1
  obtain ⟨a2, e2, _, _⟩ := DataW.trod_int Tryz.underlying2 t2
  obtain ⟨a3, e3, _, _⟩ := DataW.trod_int Tryz.underlying2 t3
  obtain ⟨a4, e4, _, _⟩ := DataW.trod_int Tryz.underlying2 t4
  obtain ⟨a5, e5, _, _⟩ := DataW.trod_int Tryz.underlying2 t5
  obtain ⟨s, e6, _, hs⟩ := DataW.trod_string Tryz.underlying9 t6
  simp only [List.cons.injEq, and_true] at e0 e1 e2 e3 e4 e5 e6
  subst e0 e1 e2 e3 e4 e5 e6
  refine ⟨⟨a0, a1, a2, a3, a4, a5, s.data.toList⟩, by cases s; simp [valV], ?_⟩
  have : s.data.toList.length = s.size := by cases s; simp [ByteArray.size]
  dsimp only
  rw [this]
  unfold maxLen at hs
  omega

end Go.Proofs.YtgaggpnlimchkaaGreatDoor.B6
