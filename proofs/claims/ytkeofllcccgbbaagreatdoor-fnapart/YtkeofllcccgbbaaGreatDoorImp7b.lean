/- Contracts of chapter 7's functions of the program: distance, apart of each kind, Apart. -/
import Derived.Test.YtkeofllcccgbbaaGreatDoorImp7
namespace Go.Proofs.YtkeofllcccgbbaaGreatDoor.V7
open Go.Proofs.YtkeofllcccgbbaaGreatDoor.P1 Go.Proofs.YtkeofllcccgbbaaGreatDoor.B1 Go.Proofs.YtkeofllcccgbbaaGreatDoor.B2 Go.Proofs.YtkeofllcccgbbaaGreatDoor.T1 Go.Proofs.YtkeofllcccgbbaaGreatDoor.BT Go.Proofs.YtkeofllcccgbbaaGreatDoor.P5 Go.Proofs.YtkeofllcccgbbaaGreatDoor.P6 Go.Proofs.YtkeofllcccgbbaaGreatDoor.P7 Go.Proofs.YtkeofllcccgbbaaGreatDoor.B5 Go.Proofs.YtkeofllcccgbbaaGreatDoor.B6 Go.Proofs.YtkeofllcccgbbaaGreatDoor.S7 Go.Proofs.YtkeofllcccgbbaaGreatDoor.D1 Go.Proofs.YtkeofllcccgbbaaGreatDoor.V6
open Go.ChangeShapes Go.WideShapes Go.ChangeAt Go.RowKit
set_option linter.unusedVariables false

theorem size_max (a b : Int) : max (a - b) (b - a) = P7.size (a - b) := by unfold P7.size; split <;> omega

theorem distance_impl (a b : Int) (w : World) (a0 : -1000000 ≤ a) (a1 : a ≤ 1000000) (b0 : -1000000 ≤ b) (b1 : b ≤ 1000000) :
    Calls Tryz.prog 125 #[.int .i64 a, .int .i64 b] w fun e w' => e = .returned (.int .i64 (P7.size (a - b))) ∧ w = w' := by
  have Hs := Lib.hid (size_max a b)
  generalize P7.size (a - b) = S at Hs ⊢
  obtain ⟨x, ex⟩ : ∃ x, a - b = x := ⟨_, rfl⟩
  obtain ⟨y, ey⟩ : ∃ y, b - a = y := ⟨_, rfl⟩
  have w1 : IntKind.i64.wrap (a - b) = x := by rw [IntKind.wrap_i64]; omega
  have w2 : IntKind.i64.wrap (b - a) = y := by rw [IntKind.wrap_i64]; omega
  rw [ex, ey] at Hs
  clear ex ey a0 a1 b0 b1
  by_cases hxy : x < y
  · have Hm := Lib.hid (show max x y = y by omega)
    go_enter Tryz.func125, Tryz.ntmps125
    go_wp2
    all_goals
      go_ret
      exact ⟨by rw [← Hs.out, Hm.out]; rfl, rfl⟩
  · have Hm := Lib.hid (show max x y = x by omega)
    go_enter Tryz.func125, Tryz.ntmps125
    go_wp2
    all_goals
      go_ret
      exact ⟨by rw [← Hs.out, Hm.out]; rfl, rfl⟩

theorem distance_implS (a b S : Int) (w : World) (h : P7.size (a - b) = S) (a0 : -1000000 ≤ a) (a1 : a ≤ 1000000) (b0 : -1000000 ≤ b) (b1 : b ≤ 1000000) :
    Calls Tryz.prog 125 #[.int .i64 a, .int .i64 b] w fun e w' => e = .returned (.int .i64 S) ∧ w = w' := h ▸ distance_impl a b w a0 a1 b0 b1

set_option maxRecDepth 20000 in
theorem measureApart_impl (n m : Int) (u : List UInt8) (k r g b c : Int) (t : List UInt8) (w : World) (n0 : -1000000 ≤ n) (n1 : n ≤ 1000000) (m0 : -1000000 ≤ m) (m1 : m ≤ 1000000) :
    Calls Tryz.prog 123 #[mV n u, valV ⟨k, m, r, g, b, c, t⟩] w (Ans (.int .i64 (P7.size (n - m))) w) := by
  obtain ⟨S, eS⟩ : ∃ S, P7.size (n - m) = S := ⟨_, rfl⟩
  have Hd := Lib.hid (fun w' => distance_implS n m S w' eS n0 n1 m0 m1)
  rw [eS]
  unfold mV valV
  dsimp only
  clear eS n0 n1 m0 m1
  go_enter Tryz.func123, Tryz.ntmps123
  go_wp2_with (go_at_call 125; refine (Hd.out _).mono ?_; rintro e w' ⟨rfl, rfl⟩)
  go_ret
  exact ⟨rfl, below_two2 _ _ _⟩

set_option maxRecDepth 20000 in
set_option maxHeartbeats 2000000 in
theorem shadesApart_impl (r g l c r' g' l' c' k n : Int) (t : List UInt8) (h : Shades r g l c) (h' : Shades r' g' l' c') (w : World) :
    Calls Tryz.prog 131 #[shV r g l c, valV ⟨k, n, r', g', l', c', t⟩] w (Ans (.int .i64 (P7.size (r - r') + P7.size (g - g') + P7.size (l - l') + P7.size (c - c'))) w) := by
  have Hs := Lib.hid (fun w' => shadesOf_impl ⟨k, n, r', g', l', c', t⟩ w')
  obtain ⟨⟨r0, r1⟩, ⟨g0, g1⟩, ⟨l0, l1⟩, ⟨c0, c1⟩⟩ := h
  obtain ⟨⟨r2, r3⟩, ⟨g2, g3⟩, ⟨l2, l3⟩, ⟨c2, c3⟩⟩ := h'
  obtain ⟨a, ea⟩ : ∃ a, P7.size (r - r') = a := ⟨_, rfl⟩
  obtain ⟨b, eb⟩ : ∃ b, P7.size (g - g') = b := ⟨_, rfl⟩
  obtain ⟨d, ed⟩ : ∃ d, P7.size (l - l') = d := ⟨_, rfl⟩
  obtain ⟨e, ee⟩ : ∃ e, P7.size (c - c') = e := ⟨_, rfl⟩
  have ba : 0 ≤ a ∧ a ≤ 255 := by rw [← ea]; unfold P7.size; split <;> omega
  have bb : 0 ≤ b ∧ b ≤ 255 := by rw [← eb]; unfold P7.size; split <;> omega
  have bd : 0 ≤ d ∧ d ≤ 255 := by rw [← ed]; unfold P7.size; split <;> omega
  have be : 0 ≤ e ∧ e ≤ 255 := by rw [← ee]; unfold P7.size; split <;> omega
  have HA := Lib.hid (fun w' => distance_implS r r' a w' ea (by omega) (by omega) (by omega) (by omega))
  have HB := Lib.hid (fun w' => distance_implS g g' b w' eb (by omega) (by omega) (by omega) (by omega))
  have HD := Lib.hid (fun w' => distance_implS l l' d w' ed (by omega) (by omega) (by omega) (by omega))
  have HE := Lib.hid (fun w' => distance_implS c c' e w' ee (by omega) (by omega) (by omega) (by omega))
  obtain ⟨s1, es1⟩ : ∃ s, a + b = s := ⟨_, rfl⟩
  obtain ⟨s2, es2⟩ : ∃ s, s1 + d = s := ⟨_, rfl⟩
  obtain ⟨s3, es3⟩ : ∃ s, s2 + e = s := ⟨_, rfl⟩
  have Hw0 := Lib.hid (show wrap64 a = a by unfold wrap64; omega)
  have w5 : IntKind.i64.wrap (a + b) = s1 := by rw [IntKind.wrap_i64]; omega
  have w6 : IntKind.i64.wrap (s1 + d) = s2 := by rw [IntKind.wrap_i64]; omega
  have w7 : IntKind.i64.wrap (s2 + e) = s3 := by rw [IntKind.wrap_i64]; omega
  have i0 : ∀ w', (Instr.index 65 (.agg #[.int .i64 r', .int .i64 g', .int .i64 l', .int .i64 c']) (.int .i64 0)).run Tryz.prog w' = .ok (.int .i64 r') w' := fun w' => arr4_at r' g' l' c' r' 0 rfl w'
  have i1 : ∀ w', (Instr.index 65 (.agg #[.int .i64 r', .int .i64 g', .int .i64 l', .int .i64 c']) (.int .i64 1)).run Tryz.prog w' = .ok (.int .i64 g') w' := fun w' => arr4_at r' g' l' c' g' 1 rfl w'
  have i2 : ∀ w', (Instr.index 65 (.agg #[.int .i64 r', .int .i64 g', .int .i64 l', .int .i64 c']) (.int .i64 2)).run Tryz.prog w' = .ok (.int .i64 l') w' := fun w' => arr4_at r' g' l' c' l' 2 rfl w'
  have i3 : ∀ w', (Instr.index 65 (.agg #[.int .i64 r', .int .i64 g', .int .i64 l', .int .i64 c']) (.int .i64 3)).run Tryz.prog w' = .ok (.int .i64 c') w' := fun w' => arr4_at r' g' l' c' c' 3 rfl w'
  rw [ea, eb, ed, ee, es1, es2, es3]
  unfold valV shV at Hs
  unfold valV shV
  dsimp only at Hs ⊢
  clear ea eb ed ee es1 es2 es3 ba bb bd be r0 r1 r2 r3 g0 g1 g2 g3 l0 l1 l2 l3 c0 c1 c2 c3
  go_enter Tryz.func131, Tryz.ntmps131
  go_wp2_with (go_at_call 43; refine (Hs.out _).mono ?_; rintro e w1 ⟨rfl, g1⟩)
  obtain ⟨m0, m1, m2, m3, ml, hB⟩ : w1.cell? ⟨w.heap.size, 0, none⟩ = some (.int .i64 r) ∧ w1.cell? ⟨w.heap.size, 1, none⟩ = some (.int .i64 g) ∧ w1.cell? ⟨w.heap.size, 2, none⟩ = some (.int .i64 l) ∧ w1.cell? ⟨w.heap.size, 3, none⟩ = some (.int .i64 c) ∧ w.heap.size < w1.heap.size ∧ Below w.heap.size w w1 := by
    have hb := below_two2 w (.cells #[.int .i64 r, .int .i64 g, .int .i64 l, .int .i64 c] 75) (.cells #[.int .i64 k, .int .i64 n, .int .i64 r', .int .i64 g', .int .i64 l', .int .i64 c', .string ⟨t.toArray⟩] 25)
    have hl : w.heap.size < ((w.alloc (.cells #[.int .i64 r, .int .i64 g, .int .i64 l, .int .i64 c] 75)).alloc (.cells #[.int .i64 k, .int .i64 n, .int .i64 r', .int .i64 g', .int .i64 l', .int .i64 c', .string ⟨t.toArray⟩] 25)).heap.size := by simp; omega
    exact ⟨(g1.cell (p := ⟨w.heap.size, 0, none⟩) hl).trans (by simp), (g1.cell (p := ⟨w.heap.size, 1, none⟩) hl).trans (by simp), (g1.cell (p := ⟨w.heap.size, 2, none⟩) hl).trans (by simp), (g1.cell (p := ⟨w.heap.size, 3, none⟩) hl).trans (by simp), Nat.lt_of_lt_of_le hl g1.size, hb.trans (g1.mono hb.size)⟩
  clear g1
  generalize hbz : w.heap.size = bm at m0 m1 m2 m3 ml ⊢
  clear hbz
  have HBW := Lib.hid hB
  clear hB
  go_loopg [10, 5] 4 (fun kx s10 s5 wr => wr = w1 ∧ ((kx = 4 ∧ s10 = .int .i64 0 ∧ s5 = .int .i64 0) ∨ (kx = 3 ∧ s10 = .int .i64 1 ∧ s5 = .int .i64 a) ∨ (kx = 2 ∧ s10 = .int .i64 2 ∧ s5 = .int .i64 s1) ∨ (kx = 1 ∧ s10 = .int .i64 3 ∧ s5 = .int .i64 s2) ∨ (kx = 0 ∧ s10 = .int .i64 4 ∧ s5 = .int .i64 s3)))
  case atStart => exact ⟨rfl, Or.inl ⟨rfl, rfl, rfl⟩⟩
  case round =>
    obtain ⟨rfl, ⟨rfl, rfl, rfl⟩ | ⟨rfl, rfl, rfl⟩ | ⟨rfl, rfl, rfl⟩ | ⟨rfl, rfl, rfl⟩ | ⟨rfl, rfl, rfl⟩⟩ := hrel
    · go_wp2_with (go_at_call 125; refine (HA.out _).mono ?_; rintro e w2 ⟨rfl, rfl⟩)
      go_roundg 3
      case measure => omega
      case rel => exact ⟨rfl, Or.inr (Or.inl ⟨rfl, rfl, by rw [Hw0.out]⟩)⟩
    · go_wp2_with (go_at_call 125; refine (HB.out _).mono ?_; rintro e w2 ⟨rfl, rfl⟩)
      go_roundg 2
      case measure => omega
      case rel => exact ⟨rfl, Or.inr (Or.inr (Or.inl ⟨rfl, rfl, rfl⟩))⟩
    · go_wp2_with (go_at_call 125; refine (HD.out _).mono ?_; rintro e w2 ⟨rfl, rfl⟩)
      go_roundg 1
      case measure => omega
      case rel => exact ⟨rfl, Or.inr (Or.inr (Or.inr (Or.inl ⟨rfl, rfl, rfl⟩)))⟩
    · go_wp2_with (go_at_call 125; refine (HE.out _).mono ?_; rintro e w2 ⟨rfl, rfl⟩)
      go_roundg 0
      case measure => omega
      case rel => exact ⟨rfl, Or.inr (Or.inr (Or.inr (Or.inr ⟨rfl, rfl, rfl⟩)))⟩
    · go_wp2_with fail
      go_ret
      exact ⟨rfl, HBW.out⟩

/-- The word of a showing. -/
def showW (s : Bool) : List UInt8 := if s then shownW else hiddenW

set_option maxRecDepth 20000 in
theorem showingValue_impl (s : Bool) (w : World) : Calls Tryz.prog 136 #[.bool s] w (Ans (valV ⟨5, 0, 0, 0, 0, 0, showW s⟩) w) := by
  cases s
  · unfold valV
    dsimp only
    go_enter Tryz.func136, Tryz.ntmps136
    go_wp2
    exact bodyPost_ret (v := .agg #[.int .i64 5, .int .i64 0, .int .i64 0, .int .i64 0, .int .i64 0, .int .i64 0, .string ⟨#[104, 105, 100, 100, 101, 110]⟩]) (by simp [results, Tryz.results136, go_sem]) rfl ⟨rfl, (Below.refl _ _).alloc (Nat.le_refl _) _⟩
  · unfold valV
    dsimp only
    go_enter Tryz.func136, Tryz.ntmps136
    go_wp2
    exact bodyPost_ret (v := .agg #[.int .i64 5, .int .i64 0, .int .i64 0, .int .i64 0, .int .i64 0, .int .i64 0, .string ⟨#[115, 104, 111, 119, 110]⟩]) (by simp [results, Tryz.results136, go_sem]) rfl ⟨rfl, (Below.refl _ _).alloc (Nat.le_refl _) _⟩

set_option maxRecDepth 20000 in
set_option maxHeartbeats 2000000 in
theorem showingApart_impl (s : Bool) (t : List UInt8) (w : World) :
    Calls Tryz.prog 134 #[.bool s, valV ⟨5, 0, 0, 0, 0, 0, t⟩] w (Ans (.int .i64 (if showW s = t then 0 else 1)) w) := by
  have Hv := Lib.hid (fun w' => showingValue_impl s w')
  obtain ⟨z, ez⟩ : ∃ z, showW s = z := ⟨_, rfl⟩
  rw [ez] at Hv ⊢
  clear ez
  obtain ⟨S, eS⟩ : ∃ S, Va.same ⟨5, 0, 0, 0, 0, 0, z⟩ ⟨5, 0, 0, 0, 0, 0, t⟩ = S := ⟨_, rfl⟩
  have heq : ∀ w', (Op.equalIn 10000 25 (.agg #[.int .i64 5, .int .i64 0, .int .i64 0, .int .i64 0, .int .i64 0, .int .i64 0, .string ⟨z.toArray⟩]) (.agg #[.int .i64 5, .int .i64 0, .int .i64 0, .int .i64 0, .int .i64 0, .int .i64 0, .string ⟨t.toArray⟩])).run Tryz.prog w' = .ok S w' := fun w' => by
    rw [← eS]
    exact eq_value 5 0 0 0 0 0 5 0 0 0 0 0 z t w'
  have hR := Lib.hid (show (if z = t then (0 : Int) else 1) = if S = true then 0 else 1 by
    rw [← eS]
    by_cases h : z = t
    · rw [if_pos h, if_pos (Va.same_iff.2 (by rw [h]))]
    · rw [if_neg h, if_neg (fun h' => h (by have := Va.same_iff.1 h'; injection this))])
  generalize (if z = t then (0 : Int) else 1) = R at hR ⊢
  unfold valV at Hv ⊢
  dsimp only at Hv ⊢
  clear eS
  have hn := held7_new (.int .i64 5) (.int .i64 0) (.int .i64 0) (.int .i64 0) (.int .i64 0) (.int .i64 0) (.string ⟨t.toArray⟩) 25 (Below.refl w.heap.size w)
  obtain ⟨c0, c1, c2, c3, c4, c5, c6, hlt, hB⟩ := hn
  cases S
  all_goals
    go_enter Tryz.func134, Tryz.ntmps134
    go_wp2_with fail
    generalize w.alloc (.cells #[.int .i64 5, .int .i64 0, .int .i64 0, .int .i64 0, .int .i64 0, .int .i64 0, .string ⟨t.toArray⟩] 25) = W at *
    generalize hbz : w.heap.size = bv at c0 c1 c2 c3 c4 c5 c6 hlt ⊢
    have HZ := Lib.hid hbz
    clear hbz
    go_region_held3 (fun w' => w'.cell? ⟨bv, 0, none⟩ = some (.int .i64 5) ∧ w'.cell? ⟨bv, 1, none⟩ = some (.int .i64 0) ∧ w'.cell? ⟨bv, 2, none⟩ = some (.int .i64 0) ∧ w'.cell? ⟨bv, 3, none⟩ = some (.int .i64 0) ∧ w'.cell? ⟨bv, 4, none⟩ = some (.int .i64 0) ∧ w'.cell? ⟨bv, 5, none⟩ = some (.int .i64 0) ∧ w'.cell? ⟨bv, 6, none⟩ = some (.string ⟨t.toArray⟩) ∧ bv < w'.heap.size ∧ Below w.heap.size w w')
      (first | with_reducible exact held7_drew c0 c1 c2 c3 c4 c5 c6 hlt hB | (go_split_ands; with_reducible exact held7_call hb' (by assumption) (by assumption) (by assumption) (by assumption) (by assumption) (by assumption) (by assumption) (by assumption) (by assumption)))
      (first | (go_at_call 136; refine (Hv.out _).mono ?_; rintro e w' ⟨rfl, hb'⟩))
    rename_i hS
    obtain ⟨_, _, _, _, _, _, _, _, hBS⟩ := hS
    go_wp2_with fail
    go_ret
    exact ⟨by rw [hR.out]; rfl, hBS⟩

end Go.Proofs.YtkeofllcccgbbaaGreatDoor.V7
