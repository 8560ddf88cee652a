/- The draw DrawReadEase: some short text. -/
import Derived.Test.YtmaagcmbofedhaaDoorDraw4
import Derived.Test.YtmaagcmbofedhaaDoorBend
namespace Go.Proofs.YtmaagcmbofedhaaDoor.D4
open Go.Proofs.YtmaagcmbofedhaaDoor.P1 Go.Proofs.YtmaagcmbofedhaaDoor.B1 Go.Proofs.YtmaagcmbofedhaaDoor.B2 Go.Proofs.YtmaagcmbofedhaaDoor.P2 Go.Proofs.YtmaagcmbofedhaaDoor.P3 Go.Proofs.YtmaagcmbofedhaaDoor.T1 Go.Proofs.YtmaagcmbofedhaaDoor.BT Go.Proofs.YtmaagcmbofedhaaDoor.B4 Go.Proofs.YtmaagcmbofedhaaDoor.P4 Go.Proofs.YtmaagcmbofedhaaDoor.D1 Go.Proofs.YtmaagcmbofedhaaDoor.D2 Go.Proofs.YtmaagcmbofedhaaDoor.D3 Go.Proofs.YtmaagcmbofedhaaDoor.DB
open Go.ChangeShapes Go.WideShapes Go.ChangeAt Go.RowKit
set_option linter.unusedVariables false

theorem show_short (k x1 y1 x2 y2 c j : Int) : (showEase k x1 y1 x2 y2 c j).length ≤ 200 := by
  cases h : easeOk k x1 y1 x2 y2 c j
  · rw [showEase_out h]; simp
  · rw [showEase_in h]
    rcases easeOk_true h with ⟨rfl, -⟩ | ⟨rfl, hc, -⟩ | ⟨rfl, hs, -⟩
    · show lineText.length ≤ 200
      decide
    · show (curveText x1 y1 x2 y2).length ≤ 200
      obtain ⟨b0, b1, b2, b3, b4, b5, b6, b7⟩ := curveOk_true hc
      have l1 := itoa_len (n := x1) (by omega) (by omega)
      have l2 := itoa_len (n := y1) (by omega) (by omega)
      have l3 := itoa_len (n := x2) (by omega) (by omega)
      have l4 := itoa_len (n := y2) (by omega) (by omega)
      simp only [curveText, List.length_append, List.length_cons, List.length_nil]
      omega
    · show (stepsText c j).length ≤ 200
      obtain ⟨b0, b1, b2, b3, b4⟩ := stepsOk_true hs
      have l1 := itoa_len (n := c) (by omega) (by omega)
      have l2 : (jumpWord j).length ≤ 5 := by unfold jumpWord; split <;> (try split) <;> (try split) <;> decide
      simp only [stepsText, List.length_append, List.length_cons, List.length_nil]
      omega

/-- What a draw of a text from the bytes answers. -/
def GivenText (most : Nat) (w : World) (e : Ending) (w' : World) : Prop := ∃ t : List UInt8, t.length ≤ most ∧ e = .returned (.string ⟨t.toArray⟩) ∧ Below w.heap.size w w'

set_option maxRecDepth 20000 in
set_option maxHeartbeats 4000000 in
theorem ReadEase_draw (w : World) (a : Option Addr) (len cap : Nat) (h : Bytes w w.heap.size a len) :
    Calls Tryd.prog 9 #[.slice a len cap] w (GivenText 300 w) := by
  go_enter Tryd.func9, Tryd.ntmps9
  go_wp2_with fail
  refine (New_draw _ a len cap h).mono ?_
  rintro e w1 ⟨rfl, hc1, ho1⟩
  have hF1 : Fr w.heap.size a len cap w w1 := ⟨hc1, ho1, h⟩
  clear hc1 ho1 h
  generalize hcz : w.heap.size = c at *
  have HZ := Lib.hid hcz
  clear hcz
  go_wp2_with fail
  refine (l4Any_draw _ c a len cap hF1.cur).mono ?_
  rintro e w2 ⟨⟨n0, n1, n2, n3, n4, n5, n6⟩, rfl, hc2, ho2⟩
  have hF2 := hF1.call hc2 ho2
  clear hF1 hc2 ho2
  unfold easeV
  go_wp2_with fail
  refine (ShowEase_spec n0 n1 n2 n3 n4 n5 n6 _).mono ?_
  rintro e w3 ⟨rfl, hb3⟩
  have hF3 := fr_below hF2 hb3
  have hsh := show_short n0 n1 n2 n3 n4 n5 n6
  generalize showEase n0 n1 n2 n3 n4 n5 n6 = s at *
  clear hF2 hb3
  go_wp2_with fail
  refine (Once_draw _ c a len cap 4 hF3.cur).mono ?_
  rintro e w4 ⟨q, rfl, hc4, ho4⟩
  have hF4 := hF3.call hc4 ho4
  clear hF3 hc4 ho4
  go_upto_if 11 with (fail)
  go_cut [4] (fun s4 wx => ∃ t : List UInt8, s4 = .string ⟨t.toArray⟩ ∧ t.length ≤ 200 ∧ Fr c a len cap w wx)
  case first =>
    cases q
    · go_wp2_with fail
      go_meet
      exact ⟨s, rfl, hsh, hF4⟩
    · go_wp2_with fail
      refine (Below_draw _ c a len cap 4 (hF4.alloc _).cur).mono ?_
      rintro e w5 ⟨n, hn, rfl, hc5, ho5⟩
      have hF5 := (hF4.alloc _).call hc5 ho5
      have hL := (LBlk.new w4 [.string ⟨#[115, 108, 111, 119]⟩, .string ⟨#[113, 117, 105, 99, 107]⟩, .string ⟨#[115, 111, 102, 116]⟩, .string ⟨#[108, 105, 110, 101, 32]⟩] _).only ho5 (Nat.ne_of_gt hF4.cur.lt)
      have l0 := (hL.2 0 _ rfl).1
      have l1 := (hL.2 1 _ rfl).1
      have l2 := (hL.2 2 _ rfl).1
      have l3 := (hL.2 3 _ rfl).1
      clear hL hF4 hc5 ho5
      rcases below4 hn with rfl | rfl | rfl | rfl
      · go_wp2_with fail
        go_meet
        exact ⟨[115, 108, 111, 119], rfl, by decide, hF5⟩
      · go_wp2_with fail
        go_meet
        exact ⟨[113, 117, 105, 99, 107], rfl, by decide, hF5⟩
      · go_wp2_with fail
        go_meet
        exact ⟨[115, 111, 102, 116], rfl, by decide, hF5⟩
      · go_wp2_with fail
        go_meet
        exact ⟨[108, 105, 110, 101, 32], rfl, by decide, hF5⟩
  case rest =>
    obtain ⟨t, rfl, ht, hF⟩ := hcut
    clear hF4 hsh
    go_wp2_with fail
    refine (Once_draw _ c a len cap 4 hF.cur).mono ?_
    rintro e w6 ⟨q, rfl, hc6, ho6⟩
    have hF6 := hF.call hc6 ho6
    clear hF hc6 ho6
    cases q
    · go_wp2_with fail
      go_ret
      exact ⟨t, by omega, rfl, hF6.only.below (by rw [HZ.out]; exact Nat.le_refl _) (Nat.le_refl _)⟩
    · go_wp2_with fail
      refine (Bend_draw _ c a len cap hF6.cur t [48, 49, 57, 32, 45, 115, 101] (by omega) (by decide) (by decide)).mono ?_
      rintro e w7 ⟨u, hu, rfl, hc7, ho7⟩
      have hF7 := hF6.call hc7 ho7
      go_wp2_with fail
      go_ret
      exact ⟨u, by omega, rfl, hF7.only.below (by rw [HZ.out]; exact Nat.le_refl _) (Nat.le_refl _)⟩

set_option maxHeartbeats 2000000 in
theorem ShowEase_draw (w : World) (a : Option Addr) (len cap : Nat) (h : Bytes w w.heap.size a len) :
    Calls Tryd.prog 7 #[.slice a len cap] w (GivenEase w) := by
  go_enter Tryd.func7, Tryd.ntmps7
  go_wp2_with fail
  refine (EaseOk_draw _ a len cap (h.below ((Below.refl _ _).alloc (Nat.le_refl _) _))).mono ?_
  rintro e w1 ⟨⟨n0, n1, n2, n3, n4, n5, n6⟩, rfl, hb⟩
  have hR := (LBlk.new w [.int .i64 0, .int .i64 0, .int .i64 0, .int .i64 0, .int .i64 0, .int .i64 0, .int .i64 0] 29).below hb
  have hk : Below w.heap.size w w1 := ((Below.refl _ _).alloc (Nat.le_refl _) _).trans (hb.mono (by simp))
  clear hb h
  unfold easeV
  obtain ⟨r0, r1, r2, r3, r4, r5, r6, f0, f1, f2, f3, f4, f5, f6⟩ := seven_cells hR
  go_wp2
  obtain ⟨c0, c1, c2, c3, c4, c5, c6, _⟩ := seven_cells (put7_blk hR (.int .i64 n0) (.int .i64 n1) (.int .i64 n2) (.int .i64 n3) (.int .i64 n4) (.int .i64 n5) (.int .i64 n6))
  have hG := put7_below hk (Nat.le_refl _) (.int .i64 n0) (.int .i64 n1) (.int .i64 n2) (.int .i64 n3) (.int .i64 n4) (.int .i64 n5) (.int .i64 n6)
  unfold put7 at c0 c1 c2 c3 c4 c5 c6 hG
  exact bodyPost_ret (v := easeV ⟨n0, n1, n2, n3, n4, n5, n6⟩) (by simp only [results, Tryd.results7]; simp [go_sem, c0, c1, c2, c3, c4, c5, c6, easeV]) rfl ⟨_, rfl, hG⟩

end Go.Proofs.YtmaagcmbofedhaaDoor.D4
