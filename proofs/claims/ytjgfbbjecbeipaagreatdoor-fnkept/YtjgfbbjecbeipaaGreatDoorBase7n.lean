/- Contracts of chapter 7's functions of the reference: Mixed of numbers, of colors. -/
import Derived.Test.YtjgfbbjecbeipaaGreatDoorBase7m
namespace Go.Proofs.YtjgfbbjecbeipaaGreatDoor.B7
open Go.Proofs.YtjgfbbjecbeipaaGreatDoor.P1 Go.Proofs.YtjgfbbjecbeipaaGreatDoor.B1 Go.Proofs.YtjgfbbjecbeipaaGreatDoor.B2 Go.Proofs.YtjgfbbjecbeipaaGreatDoor.T1 Go.Proofs.YtjgfbbjecbeipaaGreatDoor.BT Go.Proofs.YtjgfbbjecbeipaaGreatDoor.P5 Go.Proofs.YtjgfbbjecbeipaaGreatDoor.P6 Go.Proofs.YtjgfbbjecbeipaaGreatDoor.P7 Go.Proofs.YtjgfbbjecbeipaaGreatDoor.B5 Go.Proofs.YtjgfbbjecbeipaaGreatDoor.B6 Go.Proofs.YtjgfbbjecbeipaaGreatDoor.S7 Go.Proofs.YtjgfbbjecbeipaaGreatDoor.D1
open Go.ChangeShapes Go.WideShapes Go.ChangeAt Go.RowKit
set_option linter.unusedVariables false

theorem chain_cell {w : World} {b c : Nat} (o : Nat) {u : Value} (hc : c ≠ b) (t : w.cell? ⟨c, o, none⟩ = some u) (v0 v1 v2 v3 v4 v5 v6 : Value) :
    (((((((w.setCell ⟨b, 0, none⟩ v0).setCell ⟨b, 1, none⟩ v1).setCell ⟨b, 2, none⟩ v2).setCell ⟨b, 3, none⟩ v3).setCell ⟨b, 4, none⟩ v4).setCell ⟨b, 5, none⟩ v5).setCell ⟨b, 6, none⟩ v6).drew.cell? ⟨c, o, none⟩ = some u := by
  rw [World.cell?_drew]
  exact cells_put o hc t v0 v1 v2 v3 v4 v5 v6

theorem below_drew7 {B : Nat} {w w1 : World} (h : Below B w w1) : Below B w w1.drew := ⟨h.os, h.tape, h.output, h.size, h.block⟩

set_option maxRecDepth 20000 in
set_option maxHeartbeats 4000000 in
theorem Mixed_num (k n m p : Int) (hk : k = 1 ∨ k = 2 ∨ k = 3) (hn : -1000000 ≤ n ∧ n ≤ 1000000) (hm : -1000000 ≤ m ∧ m ≤ 1000000) (hp : Rc p) (w : World) :
    Calls Tryz.prog 26 #[valV ⟨k, n, 0, 0, 0, 0, []⟩, valV ⟨k, m, 0, 0, 0, 0, []⟩, .int .i64 p] w (Ans (valV ⟨k, clip (between n m p) (-1000000) 1000000, 0, 0, 0, 0, []⟩) w) := by
  obtain ⟨h1, h2, h3, h4⟩ := MixedS_some ⟨k, n, 0, 0, 0, 0, []⟩ ⟨k, m, 0, 0, 0, 0, []⟩ p (Nat.zero_le _) (Nat.zero_le _) (within_mk hp.1 hp.2) (can_num hk hn hm)
  have HX := Lib.hid h1
  have HY := Lib.hid h2
  have HC := Lib.hid h3
  have HP := Lib.hid h4
  have k4 : (k == 4) = false := by simp; omega
  have k5 : (k == 5) = false := by simp; omega
  have HB := Lib.hid (fun w' => LBetween_spec n m p w' hn hm hp)
  have HL := Lib.hid (fun w' => Clip_spec (between n m p) (-1000000) 1000000 w')
  generalize clip (between n m p) (-1000000) 1000000 = x at HL ⊢
  generalize between n m p = B at HB HL
  unfold valV at HX HY HC ⊢
  dsimp only at HX HY HC ⊢
  clear hk hn hm hp h1 h2 h3 h4
  have T0 := three_new w [.int .i64 k, .int .i64 n, .int .i64 0, .int .i64 0, .int .i64 0, .int .i64 0, .string ⟨#[]⟩] [.int .i64 k, .int .i64 m, .int .i64 0, .int .i64 0, .int .i64 0, .int .i64 0, .string ⟨#[]⟩] [.int .i64 0, .int .i64 0, .int .i64 0, .int .i64 0, .int .i64 0, .int .i64 0, .string ⟨#[]⟩] 29
  obtain ⟨c0, c1, c2, c3, c4, c5, c6, _⟩ := seven_cells T0.x
  obtain ⟨d0, d1, d2, d3, d4, d5, d6, _⟩ := seven_cells T0.y
  go_enter Tryz.func26, Tryz.ntmps26
  go_wp2_with (first | (go_at_call 48; refine (HC.out _).mono ?_; rintro e w3 ⟨rfl, g3⟩; have T3 := three_call T2 g3; obtain ⟨q0, q1, q2, q3, q4, q5, q6, _⟩ := seven_cells T3.x; obtain ⟨u0, u1, u2, u3, u4, u5, u6, _⟩ := seven_cells T3.y; obtain ⟨_, _, _, _, _, _, _, f0, f1, f2, f3, f4, f5, f6⟩ := seven_cells T3.z) | (go_at_call 21; have hz := T1; refine (HY.out _).mono ?_; rintro e w2 ⟨rfl, g2⟩; have T2 := three_call T1 g2; obtain ⟨q0, q1, q2, q3, q4, q5, q6, _⟩ := seven_cells T2.x; obtain ⟨u0, u1, u2, u3, u4, u5, u6, _⟩ := seven_cells T2.y) | (go_at_call 21; refine (HX.out _).mono ?_; rintro e w1 ⟨rfl, g1⟩; have T1 := three_call T0 g1; obtain ⟨q0, q1, q2, q3, q4, q5, q6, _⟩ := seven_cells T1.x; obtain ⟨u0, u1, u2, u3, u4, u5, u6, _⟩ := seven_cells T1.y) | (go_at_call 47; refine (HP.out _).mono ?_; rintro e w' ⟨rfl, rfl⟩))
  have T4 := three_drew T3
  obtain ⟨a0, a1, a2, a3, a4, a5, a6, _⟩ := seven_cells T4.x
  obtain ⟨e0, e1, e2, e3, e4, e5, e6, _⟩ := seven_cells T4.y
  obtain ⟨_, _, _, _, _, _, _, j0, j1, j2, j3, j4, j5, j6⟩ := seven_cells T4.z
  clear c0 c1 c2 c3 c4 c5 c6 d0 d1 d2 d3 d4 d5 d6
  have n1 : w.heap.size ≠ w.heap.size + 1 + 1 := by omega
  have n2 : w.heap.size + 1 ≠ w.heap.size + 1 + 1 := by omega
  go_region_held3 (fun w' => w'.cell? ⟨w.heap.size, 0, none⟩ = some (.int .i64 k) ∧ w'.cell? ⟨w.heap.size, 1, none⟩ = some (.int .i64 n) ∧ w'.cell? ⟨w.heap.size + 1, 1, none⟩ = some (.int .i64 m))
    (first | with_reducible exact ⟨a0, a1, e1⟩ | with_reducible exact ⟨chain_cell 0 n1 q0 _ _ _ _ _ _ _, chain_cell 1 n1 q1 _ _ _ _ _ _ _, chain_cell 1 n2 u1 _ _ _ _ _ _ _⟩)
    (first | (go_at_call 50; refine (HB.out _).mono ?_; rintro e w' ⟨rfl, rfl⟩) | (go_at_call 45; refine (HL.out _).mono ?_; rintro e w' ⟨rfl, rfl⟩))
  go_wp2_with fail
  obtain ⟨p0, p1, p2, p3, p4, p5, p6, _⟩ := seven_cells (put7_blk T3.z (.int .i64 k) (.int .i64 x) (.int .i64 0) (.int .i64 0) (.int .i64 0) (.int .i64 0) (.string ⟨#[]⟩))
  unfold put7 at p0 p1 p2 p3 p4 p5 p6
  exact bodyPost_ret (v := valV ⟨k, x, 0, 0, 0, 0, []⟩) (by simp only [results, Tryz.results26]; simp [go_sem, p0, p1, p2, p3, p4, p5, p6, valV]) rfl ⟨rfl, below_drew7 (put7_below T3.b (by omega) (.int .i64 k) (.int .i64 x) (.int .i64 0) (.int .i64 0) (.int .i64 0) (.int .i64 0) (.string ⟨#[]⟩))⟩

set_option maxRecDepth 20000 in
set_option maxHeartbeats 8000000 in
theorem Mixed_color (r g l c r' g' l' c' p : Int) (h : Shades r g l c) (h' : Shades r' g' l' c') (hp : Rc p) (w : World) :
    Calls Tryz.prog 26 #[valV ⟨4, 0, r, g, l, c, []⟩, valV ⟨4, 0, r', g', l', c', []⟩, .int .i64 p] w (Ans (valV ⟨4, 0, lev r r' p, lev g g' p, lev l l' p, lev c c' p, []⟩) w) := by
  obtain ⟨h1, h2, h3, h4⟩ := MixedS_some ⟨4, 0, r, g, l, c, []⟩ ⟨4, 0, r', g', l', c', []⟩ p (Nat.zero_le _) (Nat.zero_le _) (within_mk hp.1 hp.2) (can_color h h')
  have HX := Lib.hid h1
  have HY := Lib.hid h2
  have HC := Lib.hid h3
  have HP := Lib.hid h4
  have HL := Lib.hid (fun a b w' (ha : Lv a) (hb : Lv b) => Level_spec a b p w' ha hb hp)
  obtain ⟨vr, vg, vl, vc⟩ : Lv r ∧ Lv g ∧ Lv l ∧ Lv c := h
  obtain ⟨vr', vg', vl', vc'⟩ : Lv r' ∧ Lv g' ∧ Lv l' ∧ Lv c' := h'
  unfold valV at HX HY HC ⊢
  dsimp only at HX HY HC ⊢
  clear hp h1 h2 h3 h4
  have T0 := three_new w [.int .i64 4, .int .i64 0, .int .i64 r, .int .i64 g, .int .i64 l, .int .i64 c, .string ⟨#[]⟩] [.int .i64 4, .int .i64 0, .int .i64 r', .int .i64 g', .int .i64 l', .int .i64 c', .string ⟨#[]⟩] [.int .i64 0, .int .i64 0, .int .i64 0, .int .i64 0, .int .i64 0, .int .i64 0, .string ⟨#[]⟩] 29
  obtain ⟨c0, c1, c2, c3, c4, c5, c6, _⟩ := seven_cells T0.x
  obtain ⟨d0, d1, d2, d3, d4, d5, d6, _⟩ := seven_cells T0.y
  go_enter Tryz.func26, Tryz.ntmps26
  go_wp2_with (first | (go_at_call 48; refine (HC.out _).mono ?_; rintro e w3 ⟨rfl, g3⟩; have T3 := three_call T2 g3; obtain ⟨q0, q1, q2, q3, q4, q5, q6, _⟩ := seven_cells T3.x; obtain ⟨u0, u1, u2, u3, u4, u5, u6, _⟩ := seven_cells T3.y; obtain ⟨_, _, _, _, _, _, _, f0, f1, f2, f3, f4, f5, f6⟩ := seven_cells T3.z) | (go_at_call 21; have hz := T1; refine (HY.out _).mono ?_; rintro e w2 ⟨rfl, g2⟩; have T2 := three_call T1 g2; obtain ⟨q0, q1, q2, q3, q4, q5, q6, _⟩ := seven_cells T2.x; obtain ⟨u0, u1, u2, u3, u4, u5, u6, _⟩ := seven_cells T2.y) | (go_at_call 21; refine (HX.out _).mono ?_; rintro e w1 ⟨rfl, g1⟩; have T1 := three_call T0 g1; obtain ⟨q0, q1, q2, q3, q4, q5, q6, _⟩ := seven_cells T1.x; obtain ⟨u0, u1, u2, u3, u4, u5, u6, _⟩ := seven_cells T1.y) | (go_at_call 47; refine (HP.out _).mono ?_; rintro e w' ⟨rfl, rfl⟩))
  have T4 := three_drew T3
  obtain ⟨a0, a1, a2, a3, a4, a5, a6, _⟩ := seven_cells T4.x
  obtain ⟨e0, e1, e2, e3, e4, e5, e6, _⟩ := seven_cells T4.y
  obtain ⟨_, _, _, _, _, _, _, j0, j1, j2, j3, j4, j5, j6⟩ := seven_cells T4.z
  clear c0 c1 c2 c3 c4 c5 c6 d0 d1 d2 d3 d4 d5 d6
  have n1 : w.heap.size ≠ w.heap.size + 1 + 1 := by omega
  have n2 : w.heap.size + 1 ≠ w.heap.size + 1 + 1 := by omega
  go_region_held3 (fun w' => w'.cell? ⟨w.heap.size, 2, none⟩ = some (.int .i64 r) ∧ w'.cell? ⟨w.heap.size, 3, none⟩ = some (.int .i64 g) ∧ w'.cell? ⟨w.heap.size, 4, none⟩ = some (.int .i64 l) ∧ w'.cell? ⟨w.heap.size, 5, none⟩ = some (.int .i64 c) ∧ w'.cell? ⟨w.heap.size + 1, 2, none⟩ = some (.int .i64 r') ∧ w'.cell? ⟨w.heap.size + 1, 3, none⟩ = some (.int .i64 g') ∧ w'.cell? ⟨w.heap.size + 1, 4, none⟩ = some (.int .i64 l') ∧ w'.cell? ⟨w.heap.size + 1, 5, none⟩ = some (.int .i64 c'))
    (first | with_reducible exact ⟨a2, a3, a4, a5, e2, e3, e4, e5⟩ | with_reducible exact ⟨chain_cell 2 n1 q2 _ _ _ _ _ _ _, chain_cell 3 n1 q3 _ _ _ _ _ _ _, chain_cell 4 n1 q4 _ _ _ _ _ _ _, chain_cell 5 n1 q5 _ _ _ _ _ _ _, chain_cell 2 n2 u2 _ _ _ _ _ _ _, chain_cell 3 n2 u3 _ _ _ _ _ _ _, chain_cell 4 n2 u4 _ _ _ _ _ _ _, chain_cell 5 n2 u5 _ _ _ _ _ _ _⟩)
    (first | (go_at_call 49; refine (HL.out _ _ _ (by assumption) (by assumption)).mono ?_; rintro e w' ⟨rfl, rfl⟩))
  go_wp2_with fail
  obtain ⟨p0, p1, p2, p3, p4, p5, p6, _⟩ := seven_cells (put7_blk T3.z (.int .i64 4) (.int .i64 0) (.int .i64 (lev r r' p)) (.int .i64 (lev g g' p)) (.int .i64 (lev l l' p)) (.int .i64 (lev c c' p)) (.string ⟨#[]⟩))
  unfold put7 at p0 p1 p2 p3 p4 p5 p6
  exact bodyPost_ret (v := valV ⟨4, 0, lev r r' p, lev g g' p, lev l l' p, lev c c' p, []⟩) (by simp only [results, Tryz.results26]; simp [go_sem, p0, p1, p2, p3, p4, p5, p6, valV]) rfl ⟨rfl, below_drew7 (put7_below T3.b (by omega) (.int .i64 4) (.int .i64 0) (.int .i64 (lev r r' p)) (.int .i64 (lev g g' p)) (.int .i64 (lev l l' p)) (.int .i64 (lev c c' p)) (.string ⟨#[]⟩))⟩

/-- The reference's Mixed. -/
theorem Mixed_spec (x y : Va) (p : Int) (hx : x.w.length ≤ 1048576) (hy : y.w.length ≤ 1048576) (w : World) :
    Calls Tryz.prog 26 #[valV x, valV y, .int .i64 p] w (Ans (valV (mixed x y p)) w) := by
  by_cases h : valueOk x = true ∧ valueOk y = true ∧ within p (-131072) 196608 = true
  · obtain ⟨h1, h2, h3⟩ := h
    have hp := within_true h3
    rw [mixed_in h1 h2 hp.1 hp.2]
    by_cases hc : canMix x y = true
    · rw [if_pos hc]
      rcases mix_cases hc with ⟨k, n, m, hk, hn, hm, rfl, rfl⟩ | ⟨r, g, l, c, r', g', l', c', q1, q2, rfl, rfl⟩ | ⟨s, t, hs, ht, rfl, rfl⟩
      · dsimp only
        rw [if_neg (num_not hk).1, if_neg (num_not hk).2]
        exact Mixed_num k n m p hk hn hm hp w
      · exact Mixed_color r g l c r' g' l' c' p q1 q2 hp w
      · dsimp only
        rw [if_neg (by decide), if_pos rfl]
        exact Mixed_word s t p hs ht hp w
    · rw [if_neg hc]
      exact Mixed_not x y p hx hy w h1 h2 h3 (by simpa using hc)
  · rw [show mixed x y p = Va.zero by
      unfold mixed
      rw [if_neg]
      rintro ⟨a, b, c, d⟩
      exact h ⟨a, b, within_mk c d⟩]
    exact Mixed_zero x y p hx hy w h

end Go.Proofs.YtjgfbbjecbeipaaGreatDoor.B7
