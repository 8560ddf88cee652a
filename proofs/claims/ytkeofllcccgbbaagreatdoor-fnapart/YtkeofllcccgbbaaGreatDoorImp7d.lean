/- Contracts of chapter 7's functions of the program: what is mixed of each kind, Mixed. -/
import Derived.Test.YtkeofllcccgbbaaGreatDoorImp7c
import Derived.Test.YtkeofllcccgbbaaGreatDoorBase7m
namespace Go.Proofs.YtkeofllcccgbbaaGreatDoor.V7
open Go.Proofs.YtkeofllcccgbbaaGreatDoor.P1 Go.Proofs.YtkeofllcccgbbaaGreatDoor.B1 Go.Proofs.YtkeofllcccgbbaaGreatDoor.B2 Go.Proofs.YtkeofllcccgbbaaGreatDoor.T1 Go.Proofs.YtkeofllcccgbbaaGreatDoor.BT Go.Proofs.YtkeofllcccgbbaaGreatDoor.P5 Go.Proofs.YtkeofllcccgbbaaGreatDoor.P6 Go.Proofs.YtkeofllcccgbbaaGreatDoor.P7 Go.Proofs.YtkeofllcccgbbaaGreatDoor.B5 Go.Proofs.YtkeofllcccgbbaaGreatDoor.B6 Go.Proofs.YtkeofllcccgbbaaGreatDoor.B7 Go.Proofs.YtkeofllcccgbbaaGreatDoor.S7 Go.Proofs.YtkeofllcccgbbaaGreatDoor.D1 Go.Proofs.YtkeofllcccgbbaaGreatDoor.V6
open Go.ChangeShapes Go.WideShapes Go.ChangeAt Go.RowKit
set_option linter.unusedVariables false

theorem heldBetween_impl (a b p lo hi : Int) (w : World) (hlh : lo ≤ hi) :
    Calls Tryz.prog 126 #[.int .i64 a, .int .i64 b, .int .i64 p, .int .i64 lo, .int .i64 hi] w fun e w' => e = .returned (.int .i64 (clip (between a b p) lo hi)) ∧ w = w' := by
  have HB := Lib.hid (fun w' => Between_impl a b p w')
  generalize between a b p = B at HB ⊢
  have Hm := Lib.hid (show clip B lo hi = min (max B lo) hi by unfold clip; omega)
  generalize clip B lo hi = C at Hm ⊢
  clear hlh
  go_enter Tryz.func126, Tryz.ntmps126
  go_wp2_with (go_at_call 127; refine (HB.out _).mono ?_; rintro e w' ⟨rfl, rfl⟩)
  all_goals
    go_ret
    exact ⟨by rw [Hm.out]; first | rfl | (rw [show min (max B lo) hi = hi by omega]; rfl) | (rw [show min (max B lo) hi = max B lo by omega]; rfl) | (rw [show min (max B lo) hi = lo by omega]; rfl) | (rw [show min (max B lo) hi = B by omega]; rfl), rfl⟩

set_option maxRecDepth 20000 in
set_option maxHeartbeats 2000000 in
theorem measureMixed_impl (n m p : Int) (u : List UInt8) (k r g b c : Int) (t : List UInt8) (w : World) :
    Calls Tryz.prog 124 #[mV n u, valV ⟨k, m, r, g, b, c, t⟩, .int .i64 p] w (Ans (.iface 63 (mV (clip (between n m p) (-1000000) 1000000) u)) w) := by
  have HH := Lib.hid (fun w' => heldBetween_impl n m p (-1000000) 1000000 w' (by omega))
  generalize clip (between n m p) (-1000000) 1000000 = C at HH ⊢
  unfold mV valV
  dsimp only
  go_enter Tryz.func124, Tryz.ntmps124
  go_wp2_with (go_at_call 126; refine (HH.out _).mono ?_; rintro e w' ⟨rfl, rfl⟩)
  go_ret
  exact ⟨rfl, below_two2 _ _ _⟩

/-- The shades that i rounds have mixed. -/
def mixTo (r g l c r' g' l' c' p : Int) : Nat → List Value
  | 0 => [.int .i64 r, .int .i64 g, .int .i64 l, .int .i64 c]
  | 1 => [.int .i64 (lev r r' p), .int .i64 g, .int .i64 l, .int .i64 c]
  | 2 => [.int .i64 (lev r r' p), .int .i64 (lev g g' p), .int .i64 l, .int .i64 c]
  | 3 => [.int .i64 (lev r r' p), .int .i64 (lev g g' p), .int .i64 (lev l l' p), .int .i64 c]
  | _ => [.int .i64 (lev r r' p), .int .i64 (lev g g' p), .int .i64 (lev l l' p), .int .i64 (lev c c' p)]

theorem four_cells7 {w : World} {b : Nat} {v0 v1 v2 v3 : Value} (h : LBlk w b [v0, v1, v2, v3]) :
    w.cell? ⟨b, 0, none⟩ = some v0 ∧ w.cell? ⟨b, 1, none⟩ = some v1 ∧ w.cell? ⟨b, 2, none⟩ = some v2 ∧ w.cell? ⟨b, 3, none⟩ = some v3 ∧
    w.frozen? ⟨b, 0, none⟩ = false ∧ w.frozen? ⟨b, 1, none⟩ = false ∧ w.frozen? ⟨b, 2, none⟩ = false ∧ w.frozen? ⟨b, 3, none⟩ = false :=
  ⟨(h.2 0 _ rfl).1, (h.2 1 _ rfl).1, (h.2 2 _ rfl).1, (h.2 3 _ rfl).1, (h.2 0 _ rfl).2, (h.2 1 _ rfl).2, (h.2 2 _ rfl).2, (h.2 3 _ rfl).2⟩

set_option maxRecDepth 20000 in
set_option maxHeartbeats 4000000 in
theorem shadesMixed_impl (r g l c r' g' l' c' p k n : Int) (t : List UInt8) (w : World) :
    Calls Tryz.prog 132 #[shV r g l c, valV ⟨k, n, r', g', l', c', t⟩, .int .i64 p] w (Ans (.iface 75 (shV (lev r r' p) (lev g g' p) (lev l l' p) (lev c c' p))) w) := by
  have Hs := Lib.hid (fun w' => shadesOf_impl ⟨k, n, r', g', l', c', t⟩ w')
  have H0 := Lib.hid (fun w' => heldBetween_impl r r' p 0 255 w' (by omega))
  have H1 := Lib.hid (fun w' => heldBetween_impl g g' p 0 255 w' (by omega))
  have H2 := Lib.hid (fun w' => heldBetween_impl l l' p 0 255 w' (by omega))
  have H3 := Lib.hid (fun w' => heldBetween_impl c c' p 0 255 w' (by omega))
  rw [show clip (between r r' p) 0 255 = lev r r' p from rfl] at H0
  rw [show clip (between g g' p) 0 255 = lev g g' p from rfl] at H1
  rw [show clip (between l l' p) 0 255 = lev l l' p from rfl] at H2
  rw [show clip (between c c' p) 0 255 = lev c c' p from rfl] at H3
  have i0 : ∀ w', (Instr.index 65 (.agg #[.int .i64 r', .int .i64 g', .int .i64 l', .int .i64 c']) (.int .i64 0)).run Tryz.prog w' = .ok (.int .i64 r') w' := fun w' => arr4_at r' g' l' c' r' 0 rfl w'
  have i1 : ∀ w', (Instr.index 65 (.agg #[.int .i64 r', .int .i64 g', .int .i64 l', .int .i64 c']) (.int .i64 1)).run Tryz.prog w' = .ok (.int .i64 g') w' := fun w' => arr4_at r' g' l' c' g' 1 rfl w'
  have i2 : ∀ w', (Instr.index 65 (.agg #[.int .i64 r', .int .i64 g', .int .i64 l', .int .i64 c']) (.int .i64 2)).run Tryz.prog w' = .ok (.int .i64 l') w' := fun w' => arr4_at r' g' l' c' l' 2 rfl w'
  have i3 : ∀ w', (Instr.index 65 (.agg #[.int .i64 r', .int .i64 g', .int .i64 l', .int .i64 c']) (.int .i64 3)).run Tryz.prog w' = .ok (.int .i64 c') w' := fun w' => arr4_at r' g' l' c' c' 3 rfl w'
  unfold valV shV at Hs
  unfold valV shV
  dsimp only at Hs ⊢
  have hL := (LBlk.new w [.int .i64 r, .int .i64 g, .int .i64 l, .int .i64 c] 75).alloc (.cells #[.int .i64 k, .int .i64 n, .int .i64 r', .int .i64 g', .int .i64 l', .int .i64 c', .string ⟨t.toArray⟩] 25)
  have hB := below_two2 w (.cells #[.int .i64 r, .int .i64 g, .int .i64 l, .int .i64 c] 75) (.cells #[.int .i64 k, .int .i64 n, .int .i64 r', .int .i64 g', .int .i64 l', .int .i64 c', .string ⟨t.toArray⟩] 25)
  go_enter Tryz.func132, Tryz.ntmps132
  go_wp2_with (go_at_call 43; refine (Hs.out _).mono ?_; rintro e w1 ⟨rfl, g1⟩)
  have HL := Lib.hid (hL.below g1)
  have HB := Lib.hid (hB.trans (g1.mono hB.size))
  clear hL hB g1
  generalize hbz : w.heap.size = bm at HL ⊢
  have HZ := Lib.hid hbz
  clear hbz
  go_loopg [11] 4 (fun kx s11 wr => ∃ i : Nat, s11 = .int .i64 (i : Int) ∧ kx + i = 4 ∧ LBlk wr bm (mixTo r g l c r' g' l' c' p i) ∧ Below w.heap.size w wr)
  case atStart => exact ⟨0, rfl, rfl, HL.out, HB.out⟩
  case round =>
    obtain ⟨i, rfl, hk, hK, hB⟩ := hrel
    clear HL HB
    have hi : i = 0 ∨ i = 1 ∨ i = 2 ∨ i = 3 ∨ i = 4 := by omega
    rcases hi with rfl | rfl | rfl | rfl | rfl
    · obtain ⟨m0, m1, m2, m3, f0, f1, f2, f3⟩ := four_cells7 (show LBlk wr bm [Value.int .i64 r, Value.int .i64 g, Value.int .i64 l, Value.int .i64 c] from hK)
      have hK' : LBlk (wr.setCell ⟨bm, 0, none⟩ (.int .i64 (lev r r' p))) bm [Value.int .i64 (lev r r' p), Value.int .i64 g, Value.int .i64 l, Value.int .i64 c] := hK.set 0 (.int .i64 (lev r r' p)) (by simp [mixTo])
      have hB' := hB.setCell (p := ⟨bm, 0, none⟩) (Nat.le_of_eq HZ.out) (.int .i64 (lev r r' p))
      have HK' := Lib.hid hK'
      have HB' := Lib.hid hB'
      clear hK hK' hB hB'
      go_wp2_with (go_at_call 126; refine (H0.out _).mono ?_; rintro e w2 ⟨rfl, rfl⟩)
      go_roundg 3
      case measure => omega
      case rel => exact ⟨1, rfl, by omega, HK'.out, HB'.out⟩
    · obtain ⟨m0, m1, m2, m3, f0, f1, f2, f3⟩ := four_cells7 (show LBlk wr bm [Value.int .i64 (lev r r' p), Value.int .i64 g, Value.int .i64 l, Value.int .i64 c] from hK)
      have hK' : LBlk (wr.setCell ⟨bm, 1, none⟩ (.int .i64 (lev g g' p))) bm [Value.int .i64 (lev r r' p), Value.int .i64 (lev g g' p), Value.int .i64 l, Value.int .i64 c] := hK.set 1 (.int .i64 (lev g g' p)) (by simp [mixTo])
      have hB' := hB.setCell (p := ⟨bm, 1, none⟩) (Nat.le_of_eq HZ.out) (.int .i64 (lev g g' p))
      have HK' := Lib.hid hK'
      have HB' := Lib.hid hB'
      clear hK hK' hB hB'
      go_wp2_with (go_at_call 126; refine (H1.out _).mono ?_; rintro e w2 ⟨rfl, rfl⟩)
      go_roundg 2
      case measure => omega
      case rel => exact ⟨2, rfl, by omega, HK'.out, HB'.out⟩
    · obtain ⟨m0, m1, m2, m3, f0, f1, f2, f3⟩ := four_cells7 (show LBlk wr bm [Value.int .i64 (lev r r' p), Value.int .i64 (lev g g' p), Value.int .i64 l, Value.int .i64 c] from hK)
      have hK' : LBlk (wr.setCell ⟨bm, 2, none⟩ (.int .i64 (lev l l' p))) bm [Value.int .i64 (lev r r' p), Value.int .i64 (lev g g' p), Value.int .i64 (lev l l' p), Value.int .i64 c] := hK.set 2 (.int .i64 (lev l l' p)) (by simp [mixTo])
      have hB' := hB.setCell (p := ⟨bm, 2, none⟩) (Nat.le_of_eq HZ.out) (.int .i64 (lev l l' p))
      have HK' := Lib.hid hK'
      have HB' := Lib.hid hB'
      clear hK hK' hB hB'
      go_wp2_with (go_at_call 126; refine (H2.out _).mono ?_; rintro e w2 ⟨rfl, rfl⟩)
      go_roundg 1
      case measure => omega
      case rel => exact ⟨3, rfl, by omega, HK'.out, HB'.out⟩
    · obtain ⟨m0, m1, m2, m3, f0, f1, f2, f3⟩ := four_cells7 (show LBlk wr bm [Value.int .i64 (lev r r' p), Value.int .i64 (lev g g' p), Value.int .i64 (lev l l' p), Value.int .i64 c] from hK)
      have hK' : LBlk (wr.setCell ⟨bm, 3, none⟩ (.int .i64 (lev c c' p))) bm [Value.int .i64 (lev r r' p), Value.int .i64 (lev g g' p), Value.int .i64 (lev l l' p), Value.int .i64 (lev c c' p)] := hK.set 3 (.int .i64 (lev c c' p)) (by simp [mixTo])
      have hB' := hB.setCell (p := ⟨bm, 3, none⟩) (Nat.le_of_eq HZ.out) (.int .i64 (lev c c' p))
      have HK' := Lib.hid hK'
      have HB' := Lib.hid hB'
      clear hK hK' hB hB'
      go_wp2_with (go_at_call 126; refine (H3.out _).mono ?_; rintro e w2 ⟨rfl, rfl⟩)
      go_roundg 0
      case measure => omega
      case rel => exact ⟨4, rfl, by omega, HK'.out, HB'.out⟩
    · obtain ⟨m0, m1, m2, m3, _⟩ := four_cells7 (show LBlk wr bm [Value.int .i64 (lev r r' p), Value.int .i64 (lev g g' p), Value.int .i64 (lev l l' p), Value.int .i64 (lev c c' p)] from hK)
      have HBz := Lib.hid hB
      clear hK hB
      go_wp2_with fail
      go_ret
      exact ⟨rfl, HBz.out⟩

/-- What of two showings stands at p. -/
def showAt (s e : Bool) (p : Int) : Bool := if p ≤ 0 then s else if 65536 ≤ p then e else s || e

set_option maxRecDepth 20000 in
set_option maxHeartbeats 2000000 in
theorem showingMixed_impl (s e : Bool) (p : Int) (w : World) :
    Calls Tryz.prog 135 #[.bool s, valV ⟨5, 0, 0, 0, 0, 0, showW e⟩, .int .i64 p] w (Ans (.iface 86 (.bool (showAt s e p))) w) := by
  obtain ⟨t, et⟩ : ∃ t, showW e = t := ⟨_, rfl⟩
  have he : (t == [115, 104, 111, 119, 110]) = e := by
    cases e
    · rw [← et]; exact str_other (by decide)
    · rw [← et]; exact str_same rfl
  rw [et]
  clear et
  unfold valV
  dsimp only
  by_cases p0 : p ≤ 0
  · have Hv := Lib.hid (show showAt s e p = s by unfold showAt; rw [if_pos p0])
    generalize showAt s e p = R at Hv ⊢
    cases e
    all_goals
      go_enter Tryz.func135, Tryz.ntmps135
      go_wp2
      go_ret
      exact ⟨by rw [Hv.out]; rfl, (Below.refl _ _).alloc (Nat.le_refl _) _⟩
  · by_cases p1 : 65536 ≤ p
    · have Hv := Lib.hid (show showAt s e p = e by unfold showAt; rw [if_neg p0, if_pos p1])
      generalize showAt s e p = R at Hv ⊢
      cases e
      all_goals
        go_enter Tryz.func135, Tryz.ntmps135
        go_wp2
        go_ret
        exact ⟨by rw [Hv.out]; rfl, (Below.refl _ _).alloc (Nat.le_refl _) _⟩
    · have Hv := Lib.hid (show showAt s e p = (s || e) by unfold showAt; rw [if_neg p0, if_neg p1])
      generalize showAt s e p = R at Hv ⊢
      cases s <;> cases e
      all_goals
        go_enter Tryz.func135, Tryz.ntmps135
        go_wp2
        go_ret
        exact ⟨by rw [Hv.out]; rfl, (Below.refl _ _).alloc (Nat.le_refl _) _⟩

set_option maxRecDepth 20000 in
set_option maxHeartbeats 2000000 in
theorem shadesValue_impl (r g l c : Int) (w : World) : Calls Tryz.prog 133 #[shV r g l c] w (Ans (valV ⟨4, 0, r, g, l, c, []⟩) w) := by
  have Hc := Lib.hid (fun w' => colorOf_impl r g l c w')
  unfold shV valV at Hc
  unfold shV
  dsimp only at Hc
  have hZ : LBlk ((w.alloc (.cells #[.int .i64 r, .int .i64 g, .int .i64 l, .int .i64 c] 75)).alloc (.cells #[.int .i64 0, .int .i64 0, .int .i64 0, .int .i64 0, .int .i64 0, .int .i64 0, .string ⟨#[]⟩] 25)) (w.heap.size + 1) [.int .i64 0, .int .i64 0, .int .i64 0, .int .i64 0, .int .i64 0, .int .i64 0, .string ⟨#[]⟩] := by
    have := LBlk.new (w.alloc (.cells #[.int .i64 r, .int .i64 g, .int .i64 l, .int .i64 c] 75)) [.int .i64 0, .int .i64 0, .int .i64 0, .int .i64 0, .int .i64 0, .int .i64 0, .string ⟨#[]⟩] 25
    rwa [World.size_alloc] at this
  have hB := below_two2 w (.cells #[.int .i64 r, .int .i64 g, .int .i64 l, .int .i64 c] 75) (.cells #[.int .i64 0, .int .i64 0, .int .i64 0, .int .i64 0, .int .i64 0, .int .i64 0, .string ⟨#[]⟩] 25)
  go_enter Tryz.func133, Tryz.ntmps133
  go_wp2_with (go_at_call 45; refine (Hc.out _).mono ?_; rintro e w1 ⟨rfl, g1⟩; have hZ1 := hZ.below g1; have hB1 := hB.trans (g1.mono hB.size); obtain ⟨_, _, _, _, _, _, _, f0, f1, f2, f3, f4, f5, f6⟩ := seven_cells hZ1)
  obtain ⟨p0, p1, p2, p3, p4, p5, p6, _⟩ := seven_cells (put7_blk hZ1 (.int .i64 4) (.int .i64 0) (.int .i64 r) (.int .i64 g) (.int .i64 l) (.int .i64 c) (.string ⟨#[]⟩))
  unfold put7 at p0 p1 p2 p3 p4 p5 p6
  exact bodyPost_ret (v := valV ⟨4, 0, r, g, l, c, []⟩) (by simp only [results, Tryz.results133]; simp [go_sem, p0, p1, p2, p3, p4, p5, p6, valV]) rfl ⟨rfl, put7_below hB1 (by omega) (.int .i64 4) (.int .i64 0) (.int .i64 r) (.int .i64 g) (.int .i64 l) (.int .i64 c) (.string ⟨#[]⟩)⟩

set_option maxRecDepth 20000 in
theorem otherValue_impl (t : List UInt8) (w : World) : Calls Tryz.prog 137 #[.string ⟨t.toArray⟩] w (Ans (valV ⟨5, 0, 0, 0, 0, 0, t⟩) w) := by
  unfold valV
  dsimp only
  go_enter Tryz.func137, Tryz.ntmps137
  go_wp2
  exact bodyPost_ret (v := .agg #[.int .i64 5, .int .i64 0, .int .i64 0, .int .i64 0, .int .i64 0, .int .i64 0, .string ⟨t.toArray⟩]) (by simp [results, Tryz.results137, go_sem]) rfl ⟨rfl, (Below.refl _ _).alloc (Nat.le_refl _) _⟩

set_option maxRecDepth 20000 in
set_option maxHeartbeats 2000000 in
theorem atOnce_impl (x y : Va) (p : Int) (w : World) : Calls Tryz.prog 28 #[valV x, valV y, .int .i64 p] w (Ans (kindV (if p < 32768 then x else y)) w) := by
  by_cases hp : p < 32768
  · rw [if_pos hp]
    have Hk := Lib.hid (fun w' => kindOf_impl x w')
    generalize kindV x = K at Hk ⊢
    obtain ⟨k, n, r, g, b, c, t⟩ := x
    obtain ⟨k', n', r', g', b', c', t'⟩ := y
    unfold valV at Hk ⊢
    dsimp only at Hk ⊢
    have hB := below_two2 w (.cells #[.int .i64 k, .int .i64 n, .int .i64 r, .int .i64 g, .int .i64 b, .int .i64 c, .string ⟨t.toArray⟩] 25) (.cells #[.int .i64 k', .int .i64 n', .int .i64 r', .int .i64 g', .int .i64 b', .int .i64 c', .string ⟨t'.toArray⟩] 25)
    go_enter Tryz.func28, Tryz.ntmps28
    go_wp2_with (go_at_call 27; refine (Hk.out _).mono ?_; rintro e w1 ⟨rfl, g1⟩)
    go_ret
    exact ⟨rfl, hB.trans (g1.mono hB.size)⟩
  · rw [if_neg hp]
    have Hk := Lib.hid (fun w' => kindOf_impl y w')
    generalize kindV y = K at Hk ⊢
    obtain ⟨k, n, r, g, b, c, t⟩ := x
    obtain ⟨k', n', r', g', b', c', t'⟩ := y
    unfold valV at Hk ⊢
    dsimp only at Hk ⊢
    have hB := below_two2 w (.cells #[.int .i64 k, .int .i64 n, .int .i64 r, .int .i64 g, .int .i64 b, .int .i64 c, .string ⟨t.toArray⟩] 25) (.cells #[.int .i64 k', .int .i64 n', .int .i64 r', .int .i64 g', .int .i64 b', .int .i64 c', .string ⟨t'.toArray⟩] 25)
    go_enter Tryz.func28, Tryz.ntmps28
    go_wp2_with (go_at_call 27; refine (Hk.out _).mono ?_; rintro e w1 ⟨rfl, g1⟩)
    go_ret
    exact ⟨rfl, hB.trans (g1.mono hB.size)⟩

end Go.Proofs.YtkeofllcccgbbaaGreatDoor.V7
