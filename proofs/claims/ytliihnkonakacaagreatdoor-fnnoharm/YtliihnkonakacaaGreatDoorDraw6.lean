/- Draws of chapter 6: l6Draw, l6DrawAny, DrawValueOk, DrawShowValue, DrawReadValue, DrawSameKind. -/
import Derived.Test.YtliihnkonakacaaGreatDoorDraw5
import Derived.Test.YtliihnkonakacaaGreatDoorFound
import Derived.Test.YtliihnkonakacaaGreatDoorBase6c
namespace Go.Proofs.YtliihnkonakacaaGreatDoor.D6
open Go.Proofs.YtliihnkonakacaaGreatDoor.P1 Go.Proofs.YtliihnkonakacaaGreatDoor.B1 Go.Proofs.YtliihnkonakacaaGreatDoor.B2 Go.Proofs.YtliihnkonakacaaGreatDoor.T1 Go.Proofs.YtliihnkonakacaaGreatDoor.BT Go.Proofs.YtliihnkonakacaaGreatDoor.P5 Go.Proofs.YtliihnkonakacaaGreatDoor.P6 Go.Proofs.YtliihnkonakacaaGreatDoor.B5 Go.Proofs.YtliihnkonakacaaGreatDoor.B6 Go.Proofs.YtliihnkonakacaaGreatDoor.S7 Go.Proofs.YtliihnkonakacaaGreatDoor.D1 Go.Proofs.YtliihnkonakacaaGreatDoor.D2 Go.Proofs.YtliihnkonakacaaGreatDoor.DB Go.Proofs.YtliihnkonakacaaGreatDoor.D5
open Go.ChangeShapes Go.WideShapes Go.ChangeAt Go.RowKit
set_option linter.unusedVariables false

/-- A value drawn. -/
def DrawnV (c : Nat) (a : Option Addr) (len cap : Nat) (w : World) (e : Ending) (w' : World) : Prop :=
  ∃ y : Va, e = .returned (valV y) ∧ y.w.length ≤ 100 ∧ Cur w' c a len cap ∧ Only c w w'

theorem fr_put7 {c : Nat} {a : Option Addr} {len cap : Nat} {w w' : World} (h : Fr c a len cap w w') {b : Nat} (hb : w.heap.size ≤ b) (hbc : b ≠ c) (v0 v1 v2 v3 v4 v5 v6 : Value) : Fr c a len cap w (put7 w' b v0 v1 v2 v3 v4 v5 v6) :=
  ((((((h.set hb hbc 0 v0).set hb hbc 1 v1).set hb hbc 2 v2).set hb hbc 3 v3).set hb hbc 4 v4).set hb hbc 5 v5).set hb hbc 6 v6

def kinds5 : List (List UInt8) := [[115, 104, 111, 119, 110], [104, 105, 100, 100, 101, 110], [112, 108, 97, 105, 110], [114, 111, 117, 110, 100], [98, 45, 50]]

theorem kinds5_at {k : Nat} (h : k < 5) : ∃ t, kinds5[k]? = some t ∧ t.length ≤ 10 := by
  have : k = 0 ∨ k = 1 ∨ k = 2 ∨ k = 3 ∨ k = 4 := by omega
  rcases this with rfl | rfl | rfl | rfl | rfl <;> exact ⟨_, rfl, by decide⟩

def words4 : List (List UInt8) := [[], [65], [97, 98, 99, 100, 101, 102, 103, 104, 105, 106, 107, 108], [97, 98, 99, 100, 101, 102, 103, 104, 105, 106, 107, 108, 109]]

theorem words4_at {k : Nat} (h : k < 4) : ∃ t, words4[k]? = some t ∧ t.length ≤ 13 := by
  have : k = 0 ∨ k = 1 ∨ k = 2 ∨ k = 3 := by omega
  rcases this with rfl | rfl | rfl | rfl <;> exact ⟨_, rfl, by decide⟩

set_option maxRecDepth 20000 in
set_option maxHeartbeats 4000000 in
theorem l6Draw_draw (w : World) (c : Nat) (a : Option Addr) (len cap : Nat) (h : Cur w c a len cap) :
    Calls Tryz.prog 155 #[.pointer (some ⟨c, 0, none⟩)] w (DrawnV c a len cap w) := by
  have hF0 := (Fr.refl h).alloc (.cells #[.int .i64 0, .int .i64 0, .int .i64 0, .int .i64 0, .int .i64 0, .int .i64 0, .string ⟨#[]⟩] 54)
  have hr0 : LBlk (w.alloc (.cells #[.int .i64 0, .int .i64 0, .int .i64 0, .int .i64 0, .int .i64 0, .int .i64 0, .string ⟨#[]⟩] 54)) w.heap.size [.int .i64 0, .int .i64 0, .int .i64 0, .int .i64 0, .int .i64 0, .int .i64 0, .string ⟨#[]⟩] := LBlk.new w _ _
  have hrc : w.heap.size ≠ c := Nat.ne_of_gt h.lt
  clear h
  go_enter Tryz.func155, Tryz.ntmps155
  go_wp2_with fail
  generalize w.alloc (.cells #[.int .i64 0, .int .i64 0, .int .i64 0, .int .i64 0, .int .i64 0, .int .i64 0, .string ⟨#[]⟩] 54) = W at *
  refine (Below_draw _ c a len cap 5 hF0.cur).mono ?_
  rintro e w1 ⟨n, hn, rfl, hc1, ho1⟩
  obtain ⟨K, rfl, hK⟩ := below_nat (m := 5) hn (by omega)
  have hF1 := hF0.call hc1 ho1
  have hr1 := hr0.only ho1 hrc
  clear hF0 hr0 hc1 ho1 hn
  have hK5 : K = 0 ∨ K = 1 ∨ K = 2 ∨ K = 3 ∨ K = 4 := by omega
  rcases hK5 with rfl | rfl | rfl | rfl | rfl
  · go_wp2_with fail
    refine (Below_draw _ c a len cap 1001 hF1.cur).mono ?_
    rintro e w2 ⟨n2, hn2, rfl, hc2, ho2⟩
    obtain ⟨K2, rfl, hK2⟩ := below_nat (m := 1001) hn2 (by omega)
    have hF2 := hF1.call hc2 ho2
    have hr2 := hr1.only ho2 hrc
    obtain ⟨_, _, _, _, _, _, _, f0, f1, f2, f3, f4, f5, f6⟩ := seven_cells hr2
    clear hF1 hc2 ho2 hn2
    go_wp2_with fail
    obtain ⟨p0, p1, p2, p3, p4, p5, p6, _⟩ := seven_cells (put7_blk hr2 (.int .i64 1) (.int .i64 ((K2 : Int))) (.int .i64 0) (.int .i64 0) (.int .i64 0) (.int .i64 0) (.string ⟨#[]⟩))
    unfold put7 at p0 p1 p2 p3 p4 p5 p6
    have hFz := fr_put7 hF2 (Nat.le_refl _) hrc (.int .i64 1) (.int .i64 ((K2 : Int))) (.int .i64 0) (.int .i64 0) (.int .i64 0) (.int .i64 0) (.string ⟨#[]⟩)
    exact bodyPost_ret (v := valV ⟨1, (K2 : Int), 0, 0, 0, 0, []⟩) (by simp only [results, Tryz.results155]; simp [go_sem, p0, p1, p2, p3, p4, p5, p6, valV]) rfl ⟨⟨1, (K2 : Int), 0, 0, 0, 0, []⟩, rfl, by simp, hFz.cur, hFz.only⟩
  · go_wp2_with fail
    refine (Below_draw _ c a len cap 300 hF1.cur).mono ?_
    rintro e w2 ⟨n2, hn2, rfl, hc2, ho2⟩
    obtain ⟨K2, rfl, hK2⟩ := below_nat (m := 300) hn2 (by omega)
    have hF2 := hF1.call hc2 ho2
    have hr2 := hr1.only ho2 hrc
    obtain ⟨_, _, _, _, _, _, _, f0, f1, f2, f3, f4, f5, f6⟩ := seven_cells hr2
    have hKw : IntKind.i64.wrap ((K2 : Int) - 20) = (K2 : Int) - 20 := by rw [IntKind.wrap_i64]; omega
    clear hF1 hc2 ho2 hn2
    go_wp2_with fail
    obtain ⟨p0, p1, p2, p3, p4, p5, p6, _⟩ := seven_cells (put7_blk hr2 (.int .i64 2) (.int .i64 ((K2 : Int) - 20)) (.int .i64 0) (.int .i64 0) (.int .i64 0) (.int .i64 0) (.string ⟨#[]⟩))
    unfold put7 at p0 p1 p2 p3 p4 p5 p6
    have hFz := fr_put7 hF2 (Nat.le_refl _) hrc (.int .i64 2) (.int .i64 ((K2 : Int) - 20)) (.int .i64 0) (.int .i64 0) (.int .i64 0) (.int .i64 0) (.string ⟨#[]⟩)
    exact bodyPost_ret (v := valV ⟨2, (K2 : Int) - 20, 0, 0, 0, 0, []⟩) (by simp only [results, Tryz.results155]; simp [go_sem, p0, p1, p2, p3, p4, p5, p6, valV]) rfl ⟨⟨2, (K2 : Int) - 20, 0, 0, 0, 0, []⟩, rfl, by simp, hFz.cur, hFz.only⟩
  · go_wp2_with fail
    refine (Below_draw _ c a len cap 101 hF1.cur).mono ?_
    rintro e w2 ⟨n2, hn2, rfl, hc2, ho2⟩
    obtain ⟨K2, rfl, hK2⟩ := below_nat (m := 101) hn2 (by omega)
    have hF2 := hF1.call hc2 ho2
    have hr2 := hr1.only ho2 hrc
    obtain ⟨_, _, _, _, _, _, _, f0, f1, f2, f3, f4, f5, f6⟩ := seven_cells hr2
    clear hF1 hc2 ho2 hn2
    go_wp2_with fail
    obtain ⟨p0, p1, p2, p3, p4, p5, p6, _⟩ := seven_cells (put7_blk hr2 (.int .i64 3) (.int .i64 ((K2 : Int))) (.int .i64 0) (.int .i64 0) (.int .i64 0) (.int .i64 0) (.string ⟨#[]⟩))
    unfold put7 at p0 p1 p2 p3 p4 p5 p6
    have hFz := fr_put7 hF2 (Nat.le_refl _) hrc (.int .i64 3) (.int .i64 ((K2 : Int))) (.int .i64 0) (.int .i64 0) (.int .i64 0) (.int .i64 0) (.string ⟨#[]⟩)
    exact bodyPost_ret (v := valV ⟨3, (K2 : Int), 0, 0, 0, 0, []⟩) (by simp only [results, Tryz.results155]; simp [go_sem, p0, p1, p2, p3, p4, p5, p6, valV]) rfl ⟨⟨3, (K2 : Int), 0, 0, 0, 0, []⟩, rfl, by simp, hFz.cur, hFz.only⟩
  · go_wp2_with fail
    refine (Below_draw _ c a len cap 256 hF1.cur).mono ?_
    rintro e w2 ⟨n2, hn2, rfl, hc2, ho2⟩
    obtain ⟨R, rfl, hK2⟩ := below_nat (m := 256) hn2 (by omega)
    have hF2 := hF1.call hc2 ho2
    have hr2 := hr1.only ho2 hrc
    clear hF1 hr1 hc2 ho2 hn2
    go_wp2_with fail
    refine (Below_draw _ c a len cap 256 hF2.cur).mono ?_
    rintro e w3 ⟨n3, hn3, rfl, hc3, ho3⟩
    obtain ⟨G, rfl, hK3⟩ := below_nat (m := 256) hn3 (by omega)
    have hF3 := hF2.call hc3 ho3
    have hr3 := hr2.only ho3 hrc
    clear hF2 hr2 hc3 ho3 hn3
    go_wp2_with fail
    refine (Below_draw _ c a len cap 256 hF3.cur).mono ?_
    rintro e w4 ⟨n4, hn4, rfl, hc4, ho4⟩
    obtain ⟨B, rfl, hK4⟩ := below_nat (m := 256) hn4 (by omega)
    have hF4 := hF3.call hc4 ho4
    have hr4 := (hr3.only ho4 hrc).alloc (.cells #[.int .i64 4, .int .i64 0, .int .i64 (R : Int), .int .i64 (G : Int), .int .i64 (B : Int), .int .i64 255, .string ⟨#[]⟩] 54)
    have hF4a := hF4.alloc (.cells #[.int .i64 4, .int .i64 0, .int .i64 (R : Int), .int .i64 (G : Int), .int .i64 (B : Int), .int .i64 255, .string ⟨#[]⟩] 54)
    have hv4 : LBlk (w4.alloc (.cells #[.int .i64 4, .int .i64 0, .int .i64 (R : Int), .int .i64 (G : Int), .int .i64 (B : Int), .int .i64 255, .string ⟨#[]⟩] 54)) w4.heap.size [.int .i64 4, .int .i64 0, .int .i64 (R : Int), .int .i64 (G : Int), .int .i64 (B : Int), .int .i64 255, .string ⟨#[]⟩] := LBlk.new w4 _ _
    have hvc : w4.heap.size ≠ c := Nat.ne_of_gt hF4.cur.lt
    have hvr : w.heap.size ≠ w4.heap.size := Nat.ne_of_lt (hr3.only ho4 hrc).1
    have hle4 : w.heap.size ≤ w4.heap.size := hF4.only.size
    clear hF3 hr3 hc4 ho4 hn4 hF4
    go_wp2_with fail
    generalize w4.alloc (.cells #[.int .i64 4, .int .i64 0, .int .i64 (R : Int), .int .i64 (G : Int), .int .i64 (B : Int), .int .i64 255, .string ⟨#[]⟩] 54) = W4 at *
    generalize w4.heap.size = bv at *
    refine (Once_draw _ c a len cap 3 hF4a.cur).mono ?_
    rintro e w5 ⟨qq, rfl, hc5, ho5⟩
    have hF5 := hF4a.call hc5 ho5
    have hr5 := hr4.only ho5 hrc
    have hv5 := hv4.only ho5 hvc
    clear hF4a hr4 hv4 hc5 ho5
    cases qq
    · obtain ⟨d0, d1, d2, d3, d4, d5, d6, _⟩ := seven_cells hv5
      obtain ⟨_, _, _, _, _, _, _, f0, f1, f2, f3, f4, f5, f6⟩ := seven_cells hr5
      go_wp2_with fail
      obtain ⟨p0, p1, p2, p3, p4, p5, p6, _⟩ := seven_cells (put7_blk hr5 (.int .i64 4) (.int .i64 0) (.int .i64 (R : Int)) (.int .i64 (G : Int)) (.int .i64 (B : Int)) (.int .i64 255) (.string ⟨#[]⟩))
      unfold put7 at p0 p1 p2 p3 p4 p5 p6
      have hFz := fr_put7 hF5 (Nat.le_refl _) hrc (.int .i64 4) (.int .i64 0) (.int .i64 (R : Int)) (.int .i64 (G : Int)) (.int .i64 (B : Int)) (.int .i64 255) (.string ⟨#[]⟩)
      exact bodyPost_ret (v := valV ⟨4, 0, (R : Int), (G : Int), (B : Int), 255, []⟩) (by simp only [results, Tryz.results155]; simp [go_sem, p0, p1, p2, p3, p4, p5, p6, valV]) rfl ⟨⟨4, 0, (R : Int), (G : Int), (B : Int), 255, []⟩, rfl, by simp, hFz.cur, hFz.only⟩
    · go_wp2_with fail
      refine (Below_draw _ c a len cap 256 hF5.cur).mono ?_
      rintro e w6 ⟨n6, hn6, rfl, hc6, ho6⟩
      obtain ⟨Q, rfl, hK6⟩ := below_nat (m := 256) hn6 (by omega)
      have hF6 := hF5.call hc6 ho6
      have hr6 := (hr5.only ho6 hrc).set_other hvr 5 (.int .i64 (Q : Int))
      have hv6 := hv5.only ho6 hvc
      obtain ⟨_, _, _, _, _, _, _, _, _, _, _, _, z5, _⟩ := seven_cells hv6
      have hv7 := hv6.set 5 (.int .i64 (Q : Int)) (by simp)
      have hF7 := hF6.set hle4 hvc 5 (.int .i64 (Q : Int))
      simp only [List.set_cons_succ, List.set_cons_zero] at hv7
      obtain ⟨d0, d1, d2, d3, d4, d5, d6, _⟩ := seven_cells hv7
      obtain ⟨_, _, _, _, _, _, _, f0, f1, f2, f3, f4, f5, f6⟩ := seven_cells hr6
      clear hF5 hc6 ho6 hn6 hv6
      go_wp2_with fail
      obtain ⟨p0, p1, p2, p3, p4, p5, p6, _⟩ := seven_cells (put7_blk hr6 (.int .i64 4) (.int .i64 0) (.int .i64 (R : Int)) (.int .i64 (G : Int)) (.int .i64 (B : Int)) (.int .i64 (Q : Int)) (.string ⟨#[]⟩))
      unfold put7 at p0 p1 p2 p3 p4 p5 p6
      have hFz := fr_put7 hF7 (Nat.le_refl _) hrc (.int .i64 4) (.int .i64 0) (.int .i64 (R : Int)) (.int .i64 (G : Int)) (.int .i64 (B : Int)) (.int .i64 (Q : Int)) (.string ⟨#[]⟩)
      exact bodyPost_ret (v := valV ⟨4, 0, (R : Int), (G : Int), (B : Int), (Q : Int), []⟩) (by simp only [results, Tryz.results155]; simp [go_sem, p0, p1, p2, p3, p4, p5, p6, valV]) rfl ⟨⟨4, 0, (R : Int), (G : Int), (B : Int), (Q : Int), []⟩, rfl, by simp, hFz.cur, hFz.only⟩
  · go_wp2_with fail
    refine (Below_draw _ c a len cap 5 (hF1.alloc _).cur).mono ?_
    rintro e w2 ⟨n2, hn2, rfl, hc2, ho2⟩
    obtain ⟨K2, rfl, hK2⟩ := below_nat (m := 5) hn2 (by omega)
    have hF2 := (hF1.alloc _).call hc2 ho2
    have hr2 := (hr1.alloc _).only ho2 hrc
    obtain ⟨t, ht, htl⟩ := kinds5_at hK2
    have hL := (LBlk.new w1 (kinds5.map fun t => Value.string ⟨t.toArray⟩) 9).only ho2 (Nat.ne_of_gt hF1.cur.lt)
    have hcell := (hL.2 K2 (.string ⟨t.toArray⟩) (by rw [List.getElem?_map, ht]; rfl)).1
    have hK' : (K2 : Int) < 5 := by omega
    have hK0 : (0 : Int) ≤ (K2 : Int) := by omega
    obtain ⟨_, _, _, _, _, _, _, f0, f1, f2, f3, f4, f5, f6⟩ := seven_cells hr2
    clear hL ht hF1 hr1 hc2 ho2 hn2
    go_wp2_with fail
    obtain ⟨p0, p1, p2, p3, p4, p5, p6, _⟩ := seven_cells (put7_blk hr2 (.int .i64 5) (.int .i64 0) (.int .i64 0) (.int .i64 0) (.int .i64 0) (.int .i64 0) (.string ⟨t.toArray⟩))
    unfold put7 at p0 p1 p2 p3 p4 p5 p6
    have hFz := fr_put7 hF2 (Nat.le_refl _) hrc (.int .i64 5) (.int .i64 0) (.int .i64 0) (.int .i64 0) (.int .i64 0) (.int .i64 0) (.string ⟨t.toArray⟩)
    exact bodyPost_ret (v := valV ⟨5, 0, 0, 0, 0, 0, t⟩) (by simp only [results, Tryz.results155]; simp [go_sem, p0, p1, p2, p3, p4, p5, p6, valV]) rfl ⟨⟨5, 0, 0, 0, 0, 0, t⟩, rfl, by show t.length ≤ 100; omega, hFz.cur, hFz.only⟩

set_option maxRecDepth 20000 in
set_option maxHeartbeats 4000000 in
theorem l6DrawAny_draw (w : World) (c : Nat) (a : Option Addr) (len cap : Nat) (h : Cur w c a len cap) :
    Calls Tryz.prog 118 #[.pointer (some ⟨c, 0, none⟩)] w (DrawnV c a len cap w) := by
  have hF0 := (Fr.refl h).alloc (.cells #[.int .i64 0, .int .i64 0, .int .i64 0, .int .i64 0, .int .i64 0, .int .i64 0, .string ⟨#[]⟩] 54)
  have hr0 : LBlk (w.alloc (.cells #[.int .i64 0, .int .i64 0, .int .i64 0, .int .i64 0, .int .i64 0, .int .i64 0, .string ⟨#[]⟩] 54)) w.heap.size [.int .i64 0, .int .i64 0, .int .i64 0, .int .i64 0, .int .i64 0, .int .i64 0, .string ⟨#[]⟩] := LBlk.new w _ _
  have hrc : w.heap.size ≠ c := Nat.ne_of_gt h.lt
  clear h
  go_enter Tryz.func118, Tryz.ntmps118
  go_wp2_with fail
  generalize w.alloc (.cells #[.int .i64 0, .int .i64 0, .int .i64 0, .int .i64 0, .int .i64 0, .int .i64 0, .string ⟨#[]⟩] 54) = W at *
  refine (l6Draw_draw _ c a len cap hF0.cur).mono ?_
  rintro e w1 ⟨y, rfl, hyt, hc1, ho1⟩
  have hF1 := hF0.call hc1 ho1
  have hr1 := hr0.only ho1 hrc
  obtain ⟨yk, yn, yr, yg, yb, yc, yt⟩ := y
  unfold valV
  dsimp only at hyt ⊢
  have hr2 := hr1.alloc (.cells #[.int .i64 yk, .int .i64 yn, .int .i64 yr, .int .i64 yg, .int .i64 yb, .int .i64 yc, .string ⟨yt.toArray⟩] 54)
  have hF2 := hF1.alloc (.cells #[.int .i64 yk, .int .i64 yn, .int .i64 yr, .int .i64 yg, .int .i64 yb, .int .i64 yc, .string ⟨yt.toArray⟩] 54)
  have hv2 : LBlk (w1.alloc (.cells #[.int .i64 yk, .int .i64 yn, .int .i64 yr, .int .i64 yg, .int .i64 yb, .int .i64 yc, .string ⟨yt.toArray⟩] 54)) w1.heap.size [.int .i64 yk, .int .i64 yn, .int .i64 yr, .int .i64 yg, .int .i64 yb, .int .i64 yc, .string ⟨yt.toArray⟩] := LBlk.new w1 _ _
  have hvc : w1.heap.size ≠ c := Nat.ne_of_gt hF1.cur.lt
  have hvr : w.heap.size ≠ w1.heap.size := Nat.ne_of_lt hr1.1
  have hle : w.heap.size ≤ w1.heap.size := hF1.only.size
  clear hF0 hr0 hc1 ho1 hF1 hr1
  go_wp2_with fail
  generalize w1.alloc (.cells #[.int .i64 yk, .int .i64 yn, .int .i64 yr, .int .i64 yg, .int .i64 yb, .int .i64 yc, .string ⟨yt.toArray⟩] 54) = W1 at *
  generalize w1.heap.size = bv at *
  refine (Once_draw _ c a len cap 8 hF2.cur).mono ?_
  rintro e w3 ⟨qq, rfl, hc3, ho3⟩
  have hF3 := hF2.call hc3 ho3
  have hr3 := hr2.only ho3 hrc
  have hv3 := hv2.only ho3 hvc
  clear hF2 hr2 hv2 hc3 ho3
  cases qq
  · have hvz := hv3
    have hrz := hr3
    obtain ⟨d0, d1, d2, d3, d4, d5, d6, _⟩ := seven_cells hvz
    obtain ⟨_, _, _, _, _, _, _, f0, f1, f2, f3, f4, f5, f6⟩ := seven_cells hrz
    go_wp2_with fail
    obtain ⟨p0, p1, p2, p3, p4, p5, p6, _⟩ := seven_cells (put7_blk hrz (.int .i64 yk) (.int .i64 yn) (.int .i64 yr) (.int .i64 yg) (.int .i64 yb) (.int .i64 yc) (.string ⟨yt.toArray⟩))
    unfold put7 at p0 p1 p2 p3 p4 p5 p6
    have hFz := fr_put7 hF3 (Nat.le_refl _) hrc (.int .i64 yk) (.int .i64 yn) (.int .i64 yr) (.int .i64 yg) (.int .i64 yb) (.int .i64 yc) (.string ⟨yt.toArray⟩)
    exact bodyPost_ret (v := valV ⟨yk, yn, yr, yg, yb, yc, yt⟩) (by simp only [results, Tryz.results118]; simp [go_sem, p0, p1, p2, p3, p4, p5, p6, valV]) rfl ⟨⟨yk, yn, yr, yg, yb, yc, yt⟩, rfl, hyt, hFz.cur, hFz.only⟩
  · go_wp2_with fail
    refine (Below_draw _ c a len cap 4 hF3.cur).mono ?_
    rintro e w4 ⟨n4, hn4, rfl, hc4, ho4⟩
    obtain ⟨K4, rfl, hK4⟩ := below_nat (m := 4) hn4 (by omega)
    have hF4 := hF3.call hc4 ho4
    have hr4 := hr3.only ho4 hrc
    have hv4 := hv3.only ho4 hvc
    clear hF3 hr3 hv3 hc4 ho4 hn4
    have hK5 : K4 = 0 ∨ K4 = 1 ∨ K4 = 2 ∨ K4 = 3 := by omega
    rcases hK5 with rfl | rfl | rfl | rfl
    · go_wp2_with fail
      refine (From_draw _ c a len cap 0 6 hF4.cur (by omega) (by omega) (by omega)).mono ?_
      rintro e w5 ⟨z, hz, rfl, hc5, ho5⟩
      have hF5 := hF4.call hc5 ho5
      have hr5 := hr4.only ho5 hrc
      have hv5 := hv4.only ho5 hvc
      have hrz := hr5.set_other hvr 0 (.int .i64 z)
      have hvz := hv5.set 0 (.int .i64 z) (by simp)
      have hFy := hF5.set hle hvc 0 (.int .i64 z)
      obtain ⟨_, _, _, _, _, _, _, z0, z1, z2, z3, z4, z5, z6⟩ := seven_cells hv5
      simp only [List.set_cons_zero] at hvz
      clear hF4 hr4 hv4 hc5 ho5
      obtain ⟨d0, d1, d2, d3, d4, d5, d6, _⟩ := seven_cells hvz
      obtain ⟨_, _, _, _, _, _, _, f0, f1, f2, f3, f4, f5, f6⟩ := seven_cells hrz
      go_wp2_with fail
      obtain ⟨p0, p1, p2, p3, p4, p5, p6, _⟩ := seven_cells (put7_blk hrz (.int .i64 z) (.int .i64 yn) (.int .i64 yr) (.int .i64 yg) (.int .i64 yb) (.int .i64 yc) (.string ⟨yt.toArray⟩))
      unfold put7 at p0 p1 p2 p3 p4 p5 p6
      have hFz := fr_put7 hFy (Nat.le_refl _) hrc (.int .i64 z) (.int .i64 yn) (.int .i64 yr) (.int .i64 yg) (.int .i64 yb) (.int .i64 yc) (.string ⟨yt.toArray⟩)
      exact bodyPost_ret (v := valV ⟨z, yn, yr, yg, yb, yc, yt⟩) (by simp only [results, Tryz.results118]; simp [go_sem, p0, p1, p2, p3, p4, p5, p6, valV]) rfl ⟨⟨z, yn, yr, yg, yb, yc, yt⟩, rfl, hyt, hFz.cur, hFz.only⟩
    · go_wp2_with fail
      refine (Below_draw _ c a len cap 4 (hF4.alloc _).cur).mono ?_
      rintro e w5 ⟨n5, hn5, rfl, hc5, ho5⟩
      obtain ⟨K5, rfl, hK5⟩ := below_nat (m := 4) hn5 (by omega)
      have hF5 := (hF4.alloc _).call hc5 ho5
      have hr5 := (hr4.alloc _).only ho5 hrc
      have hv5 := (hv4.alloc _).only ho5 hvc
      obtain ⟨t, ht⟩ : ∃ t, ([-1000001, -1000000, 1000000, 1000001] : List Int)[K5]? = some t := ⟨_, List.getElem?_eq_getElem hK5⟩
      have hL := (LBlk.new w4 (([-1000001, -1000000, 1000000, 1000001] : List Int).map fun z => Value.int .i64 z) 2).only ho5 (Nat.ne_of_gt hF4.cur.lt)
      have hcell := (hL.2 K5 (.int .i64 t) (by rw [List.getElem?_map, ht]; rfl)).1
      have hK' : (K5 : Int) < 4 := by omega
      have hK0 : (0 : Int) ≤ (K5 : Int) := by omega
      have hrz := hr5.set_other hvr 1 (.int .i64 t)
      have hvz := hv5.set 1 (.int .i64 t) (by simp)
      have hFy := hF5.set hle hvc 1 (.int .i64 t)
      obtain ⟨_, _, _, _, _, _, _, z0, z1, z2, z3, z4, z5, z6⟩ := seven_cells hv5
      simp only [List.set_cons_succ, List.set_cons_zero] at hvz
      clear hF4 hr4 hv4 hc5 ho5 hL ht hn5
      obtain ⟨d0, d1, d2, d3, d4, d5, d6, _⟩ := seven_cells hvz
      obtain ⟨_, _, _, _, _, _, _, f0, f1, f2, f3, f4, f5, f6⟩ := seven_cells hrz
      go_wp2_with fail
      obtain ⟨p0, p1, p2, p3, p4, p5, p6, _⟩ := seven_cells (put7_blk hrz (.int .i64 yk) (.int .i64 t) (.int .i64 yr) (.int .i64 yg) (.int .i64 yb) (.int .i64 yc) (.string ⟨yt.toArray⟩))
      unfold put7 at p0 p1 p2 p3 p4 p5 p6
      have hFz := fr_put7 hFy (Nat.le_refl _) hrc (.int .i64 yk) (.int .i64 t) (.int .i64 yr) (.int .i64 yg) (.int .i64 yb) (.int .i64 yc) (.string ⟨yt.toArray⟩)
      exact bodyPost_ret (v := valV ⟨yk, t, yr, yg, yb, yc, yt⟩) (by simp only [results, Tryz.results118]; simp [go_sem, p0, p1, p2, p3, p4, p5, p6, valV]) rfl ⟨⟨yk, t, yr, yg, yb, yc, yt⟩, rfl, hyt, hFz.cur, hFz.only⟩
    · go_wp2_with fail
      refine (Below_draw _ c a len cap 2 (hF4.alloc _).cur).mono ?_
      rintro e w5 ⟨n5, hn5, rfl, hc5, ho5⟩
      obtain ⟨K5, rfl, hK5⟩ := below_nat (m := 2) hn5 (by omega)
      have hF5 := (hF4.alloc _).call hc5 ho5
      have hr5 := (hr4.alloc _).only ho5 hrc
      have hv5 := (hv4.alloc _).only ho5 hvc
      obtain ⟨t, ht⟩ : ∃ t, ([-1, 256] : List Int)[K5]? = some t := ⟨_, List.getElem?_eq_getElem hK5⟩
      have hL := (LBlk.new w4 (([-1, 256] : List Int).map fun z => Value.int .i64 z) 2).only ho5 (Nat.ne_of_gt hF4.cur.lt)
      have hcell := (hL.2 K5 (.int .i64 t) (by rw [List.getElem?_map, ht]; rfl)).1
      have hK' : (K5 : Int) < 2 := by omega
      have hK0 : (0 : Int) ≤ (K5 : Int) := by omega
      have hrz := hr5.set_other hvr 2 (.int .i64 t)
      have hvz := hv5.set 2 (.int .i64 t) (by simp)
      have hFy := hF5.set hle hvc 2 (.int .i64 t)
      obtain ⟨_, _, _, _, _, _, _, z0, z1, z2, z3, z4, z5, z6⟩ := seven_cells hv5
      simp only [List.set_cons_succ, List.set_cons_zero] at hvz
      clear hF4 hr4 hv4 hc5 ho5 hL ht hn5
      obtain ⟨d0, d1, d2, d3, d4, d5, d6, _⟩ := seven_cells hvz
      obtain ⟨_, _, _, _, _, _, _, f0, f1, f2, f3, f4, f5, f6⟩ := seven_cells hrz
      go_wp2_with fail
      obtain ⟨p0, p1, p2, p3, p4, p5, p6, _⟩ := seven_cells (put7_blk hrz (.int .i64 yk) (.int .i64 yn) (.int .i64 t) (.int .i64 yg) (.int .i64 yb) (.int .i64 yc) (.string ⟨yt.toArray⟩))
      unfold put7 at p0 p1 p2 p3 p4 p5 p6
      have hFz := fr_put7 hFy (Nat.le_refl _) hrc (.int .i64 yk) (.int .i64 yn) (.int .i64 t) (.int .i64 yg) (.int .i64 yb) (.int .i64 yc) (.string ⟨yt.toArray⟩)
      exact bodyPost_ret (v := valV ⟨yk, yn, t, yg, yb, yc, yt⟩) (by simp only [results, Tryz.results118]; simp [go_sem, p0, p1, p2, p3, p4, p5, p6, valV]) rfl ⟨⟨yk, yn, t, yg, yb, yc, yt⟩, rfl, hyt, hFz.cur, hFz.only⟩
    · go_wp2_with fail
      refine (Below_draw _ c a len cap 4 (hF4.alloc _).cur).mono ?_
      rintro e w5 ⟨n5, hn5, rfl, hc5, ho5⟩
      obtain ⟨K5, rfl, hK5⟩ := below_nat (m := 4) hn5 (by omega)
      have hF5 := (hF4.alloc _).call hc5 ho5
      have hr5 := (hr4.alloc _).only ho5 hrc
      have hv5 := (hv4.alloc _).only ho5 hvc
      obtain ⟨t, ht, htl⟩ := words4_at hK5
      have hL := (LBlk.new w4 (words4.map fun t => Value.string ⟨t.toArray⟩) 9).only ho5 (Nat.ne_of_gt hF4.cur.lt)
      have hcell := (hL.2 K5 (.string ⟨t.toArray⟩) (by rw [List.getElem?_map, ht]; rfl)).1
      have hK' : (K5 : Int) < 4 := by omega
      have hK0 : (0 : Int) ≤ (K5 : Int) := by omega
      have hrz := hr5.set_other hvr 6 (.string ⟨t.toArray⟩)
      have hvz := hv5.set 6 (.string ⟨t.toArray⟩) (by simp)
      have hFy := hF5.set hle hvc 6 (.string ⟨t.toArray⟩)
      obtain ⟨_, _, _, _, _, _, _, z0, z1, z2, z3, z4, z5, z6⟩ := seven_cells hv5
      simp only [List.set_cons_succ, List.set_cons_zero] at hvz
      clear hF4 hr4 hv4 hc5 ho5 hL ht hn5
      obtain ⟨d0, d1, d2, d3, d4, d5, d6, _⟩ := seven_cells hvz
      obtain ⟨_, _, _, _, _, _, _, f0, f1, f2, f3, f4, f5, f6⟩ := seven_cells hrz
      go_wp2_with fail
      obtain ⟨p0, p1, p2, p3, p4, p5, p6, _⟩ := seven_cells (put7_blk hrz (.int .i64 yk) (.int .i64 yn) (.int .i64 yr) (.int .i64 yg) (.int .i64 yb) (.int .i64 yc) (.string ⟨t.toArray⟩))
      unfold put7 at p0 p1 p2 p3 p4 p5 p6
      have hFz := fr_put7 hFy (Nat.le_refl _) hrc (.int .i64 yk) (.int .i64 yn) (.int .i64 yr) (.int .i64 yg) (.int .i64 yb) (.int .i64 yc) (.string ⟨t.toArray⟩)
      exact bodyPost_ret (v := valV ⟨yk, yn, yr, yg, yb, yc, t⟩) (by simp only [results, Tryz.results118]; simp [go_sem, p0, p1, p2, p3, p4, p5, p6, valV]) rfl ⟨⟨yk, yn, yr, yg, yb, yc, t⟩, rfl, by show t.length ≤ 100; omega, hFz.cur, hFz.only⟩

end Go.Proofs.YtliihnkonakacaaGreatDoor.D6
