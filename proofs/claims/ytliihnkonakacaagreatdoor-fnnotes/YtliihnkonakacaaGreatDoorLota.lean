/- Draws of chapter 6: l6Draw, l6DrawAny, DrawValueOk, DrawShowValue, DrawReadValue, DrawSameKind. Draws of chapter 8. Draws of chapter 9: l9Draw, l9DrawAny, DrawNoteFor and their kin. -/
import Derived.Test.YtliihnkonakacaaGreatDoorDraw5
import Derived.Test.YtliihnkonakacaaGreatDoorFound
import Derived.Test.YtliihnkonakacaaGreatDoorBase6c
import Derived.Test.YtliihnkonakacaaGreatDoorBase6b
import Derived.Test.YtliihnkonakacaaGreatDoorBase9
import Derived.Test.YtliihnkonakacaaGreatDoorBase8
namespace Go.Proofs.YtliihnkonakacaaGreatDoor.D6
open Go.Proofs.YtliihnkonakacaaGreatDoor.P1 Go.Proofs.YtliihnkonakacaaGreatDoor.B1 Go.Proofs.YtliihnkonakacaaGreatDoor.B2 Go.Proofs.YtliihnkonakacaaGreatDoor.T1 Go.Proofs.YtliihnkonakacaaGreatDoor.BT Go.Proofs.YtliihnkonakacaaGreatDoor.P5 Go.Proofs.YtliihnkonakacaaGreatDoor.P6 Go.Proofs.YtliihnkonakacaaGreatDoor.B5 Go.Proofs.YtliihnkonakacaaGreatDoor.B6 Go.Proofs.YtliihnkonakacaaGreatDoor.S7 Go.Proofs.YtliihnkonakacaaGreatDoor.D1 Go.Proofs.YtliihnkonakacaaGreatDoor.D2 Go.Proofs.YtliihnkonakacaaGreatDoor.DB Go.Proofs.YtliihnkonakacaaGreatDoor.D5
open Go.ChangeShapes Go.WideShapes Go.ChangeAt Go.RowKit
set_option linter.unusedVariables false

/-- A value drawn. -/
def DrawnV (c : Nat) (a : Option Addr) (len cap : Nat) (w : World) (e : Ending) (w' : World) : Prop :=
  ∃ y : Va, e = .returned (valV y) ∧ y.w.length ≤ 100 ∧ Cur w' c a len cap ∧ Only c w w'

theorem fr_put7 {c : Nat} {a : Option Addr} {len cap : Nat} {w w' : World} (h : Fr c a len cap w w') {b : Nat} (hb : w.heap.size ≤ b) (hbc : b ≠ c) (v0 v1 v2 v3 v4 v5 v6 : Value) : Fr c a len cap w (put7 w' b v0 v1 v2 v3 v4 v5 v6) :=
  ((((((h.set hb hbc 0 v0).set hb hbc 1 v1).set hb hbc 2 v2).set hb hbc 3 v3).set hb hbc 4 v4).set hb hbc 5 v5).set hb hbc 6 v6

def kinds5 : List (List UInt8) := [[115, 104, 111, 119, 110], [104, 105, 100, 100, 101, 110], [112, 108, 97, 105, 110], [114, 111, 117, 110, 100], [98, 45, 50]]

theorem kinds5_at {k : Nat} (h : k < 5) : ∃ t, kinds5[k]? = some t ∧ t.length ≤ 10 := by
  have : k = 0 ∨ k = 1 ∨ k = 2 ∨ k = 3 ∨ k = 4 := by omega
  rcases this with rfl | rfl | rfl | rfl | rfl <;> exact ⟨_, rfl, by decide⟩

def words4 : List (List UInt8) := [[], [65], [97, 98, 99, 100, 101, 102, 103, 104, 105, 106, 107, 108], [97, 98, 99, 100, 101, 102, 103, 104, 105, 106, 107, 108, 109]]

theorem words4_at {k : Nat} (h : k < 4) : ∃ t, words4[k]? = some t ∧ t.length ≤ 13 := by
  have : k = 0 ∨ k = 1 ∨ k = 2 ∨ k = 3 := by omega
  rcases this with rfl | rfl | rfl | rfl <;> exact ⟨_, rfl, by decide⟩

set_option maxRecDepth 20000 in
set_option maxHeartbeats 4000000 in
theorem l6Draw_draw (w : World) (c : Nat) (a : Option Addr) (len cap : Nat) (h : Cur w c a len cap) :
    Calls Tryz.prog 155 #[.pointer (some ⟨c, 0, none⟩)] w (DrawnV c a len cap w) := by
  have hF0 := (Fr.refl h).alloc (.cells #[.int .i64 0, .int .i64 0, .int .i64 0, .int .i64 0, .int .i64 0, .int .i64 0, .string ⟨#[]⟩] 54)
  have hr0 : LBlk (w.alloc (.cells #[.int .i64 0, .int .i64 0, .int .i64 0, .int .i64 0, .int .i64 0, .int .i64 0, .string ⟨#[]⟩] 54)) w.heap.size [.int .i64 0, .int .i64 0, .int .i64 0, .int .i64 0, .int .i64 0, .int .i64 0, .string ⟨#[]⟩] := LBlk.new w _ _
  have hrc : w.heap.size ≠ c := Nat.ne_of_gt h.lt
  clear h
  go_enter Tryz.func155, Tryz.ntmps155
  go_wp2_with fail
  generalize w.alloc (.cells #[.int .i64 0, .int .i64 0, .int .i64 0, .int .i64 0, .int .i64 0, .int .i64 0, .string ⟨#[]⟩] 54) = W at *
  refine (Below_draw _ c a len cap 5 hF0.cur).mono ?_
  rintro e w1 ⟨n, hn, rfl, hc1, ho1⟩
  obtain ⟨K, rfl, hK⟩ := below_nat (m := 5) hn (by omega)
  have hF1 := hF0.call hc1 ho1
  have hr1 := hr0.only ho1 hrc
  clear hF0 hr0 hc1 ho1 hn
  have hK5 : K = 0 ∨ K = 1 ∨ K = 2 ∨ K = 3 ∨ K = 4 := by omega
  rcases hK5 with rfl | rfl | rfl | rfl | rfl
  · go_wp2_with fail
    refine (Below_draw _ c a len cap 1001 hF1.cur).mono ?_
    rintro e w2 ⟨n2, hn2, rfl, hc2, ho2⟩
    obtain ⟨K2, rfl, hK2⟩ := below_nat (m := 1001) hn2 (by omega)
    have hF2 := hF1.call hc2 ho2
    have hr2 := hr1.only ho2 hrc
    obtain ⟨_, _, _, _, _, _, _, f0, f1, f2, f3, f4, f5, f6⟩ := seven_cells hr2
    clear hF1 hc2 ho2 hn2
    go_wp2_with fail
    obtain ⟨p0, p1, p2, p3, p4, p5, p6, _⟩ := seven_cells (put7_blk hr2 (.int .i64 1) (.int .i64 ((K2 : Int))) (.int .i64 0) (.int .i64 0) (.int .i64 0) (.int .i64 0) (.string ⟨#[]⟩))
    unfold put7 at p0 p1 p2 p3 p4 p5 p6
    have hFz := fr_put7 hF2 (Nat.le_refl _) hrc (.int .i64 1) (.int .i64 ((K2 : Int))) (.int .i64 0) (.int .i64 0) (.int .i64 0) (.int .i64 0) (.string ⟨#[]⟩)
    exact bodyPost_ret (v := valV ⟨1, (K2 : Int), 0, 0, 0, 0, []⟩) (by simp only [results, Tryz.results155]; simp [go_sem, p0, p1, p2, p3, p4, p5, p6, valV]) rfl ⟨⟨1, (K2 : Int), 0, 0, 0, 0, []⟩, rfl, by simp, hFz.cur, hFz.only⟩
  · go_wp2_with fail
    refine (Below_draw _ c a len cap 300 hF1.cur).mono ?_
    rintro e w2 ⟨n2, hn2, rfl, hc2, ho2⟩
    obtain ⟨K2, rfl, hK2⟩ := below_nat (m := 300) hn2 (by omega)
    have hF2 := hF1.call hc2 ho2
    have hr2 := hr1.only ho2 hrc
    obtain ⟨_, _, _, _, _, _, _, f0, f1, f2, f3, f4, f5, f6⟩ := seven_cells hr2
    have hKw : IntKind.i64.wrap ((K2 : Int) - 20) = (K2 : Int) - 20 := by rw [IntKind.wrap_i64]; omega
    clear hF1 hc2 ho2 hn2
    go_wp2_with fail
    obtain ⟨p0, p1, p2, p3, p4, p5, p6, _⟩ := seven_cells (put7_blk hr2 (.int .i64 2) (.int .i64 ((K2 : Int) - 20)) (.int .i64 0) (.int .i64 0) (.int .i64 0) (.int .i64 0) (.string ⟨#[]⟩))
    unfold put7 at p0 p1 p2 p3 p4 p5 p6
    have hFz := fr_put7 hF2 (Nat.le_refl _) hrc (.int .i64 2) (.int .i64 ((K2 : Int) - 20)) (.int .i64 0) (.int .i64 0) (.int .i64 0) (.int .i64 0) (.string ⟨#[]⟩)
    exact bodyPost_ret (v := valV ⟨2, (K2 : Int) - 20, 0, 0, 0, 0, []⟩) (by simp only [results, Tryz.results155]; simp [go_sem, p0, p1, p2, p3, p4, p5, p6, valV]) rfl ⟨⟨2, (K2 : Int) - 20, 0, 0, 0, 0, []⟩, rfl, by simp, hFz.cur, hFz.only⟩
  · go_wp2_with fail
    refine (Below_draw _ c a len cap 101 hF1.cur).mono ?_
    rintro e w2 ⟨n2, hn2, rfl, hc2, ho2⟩
    obtain ⟨K2, rfl, hK2⟩ := below_nat (m := 101) hn2 (by omega)
    have hF2 := hF1.call hc2 ho2
    have hr2 := hr1.only ho2 hrc
    obtain ⟨_, _, _, _, _, _, _, f0, f1, f2, f3, f4, f5, f6⟩ := seven_cells hr2
    clear hF1 hc2 ho2 hn2
    go_wp2_with fail
    obtain ⟨p0, p1, p2, p3, p4, p5, p6, _⟩ := seven_cells (put7_blk hr2 (.int .i64 3) (.int .i64 ((K2 : Int))) (.int .i64 0) (.int .i64 0) (.int .i64 0) (.int .i64 0) (.string ⟨#[]⟩))
    unfold put7 at p0 p1 p2 p3 p4 p5 p6
    have hFz := fr_put7 hF2 (Nat.le_refl _) hrc (.int .i64 3) (.int .i64 ((K2 : Int))) (.int .i64 0) (.int .i64 0) (.int .i64 0) (.int .i64 0) (.string ⟨#[]⟩)
    exact bodyPost_ret (v := valV ⟨3, (K2 : Int), 0, 0, 0, 0, []⟩) (by simp only [results, Tryz.results155]; simp [go_sem, p0, p1, p2, p3, p4, p5, p6, valV]) rfl ⟨⟨3, (K2 : Int), 0, 0, 0, 0, []⟩, rfl, by simp, hFz.cur, hFz.only⟩
  · go_wp2_with fail
    refine (Below_draw _ c a len cap 256 hF1.cur).mono ?_
    rintro e w2 ⟨n2, hn2, rfl, hc2, ho2⟩
    obtain ⟨R, rfl, hK2⟩ := below_nat (m := 256) hn2 (by omega)
    have hF2 := hF1.call hc2 ho2
    have hr2 := hr1.only ho2 hrc
    clear hF1 hr1 hc2 ho2 hn2
    go_wp2_with fail
    refine (Below_draw _ c a len cap 256 hF2.cur).mono ?_
    rintro e w3 ⟨n3, hn3, rfl, hc3, ho3⟩
    obtain ⟨G, rfl, hK3⟩ := below_nat (m := 256) hn3 (by omega)
    have hF3 := hF2.call hc3 ho3
    have hr3 := hr2.only ho3 hrc
    clear hF2 hr2 hc3 ho3 hn3
    go_wp2_with fail
    refine (Below_draw _ c a len cap 256 hF3.cur).mono ?_
    rintro e w4 ⟨n4, hn4, rfl, hc4, ho4⟩
    obtain ⟨B, rfl, hK4⟩ := below_nat (m := 256) hn4 (by omega)
    have hF4 := hF3.call hc4 ho4
    have hr4 := (hr3.only ho4 hrc).alloc (.cells #[.int .i64 4, .int .i64 0, .int .i64 (R : Int), .int .i64 (G : Int), .int .i64 (B : Int), .int .i64 255, .string ⟨#[]⟩] 54)
    have hF4a := hF4.alloc (.cells #[.int .i64 4, .int .i64 0, .int .i64 (R : Int), .int .i64 (G : Int), .int .i64 (B : Int), .int .i64 255, .string ⟨#[]⟩] 54)
    have hv4 : LBlk (w4.alloc (.cells #[.int .i64 4, .int .i64 0, .int .i64 (R : Int), .int .i64 (G : Int), .int .i64 (B : Int), .int .i64 255, .string ⟨#[]⟩] 54)) w4.heap.size [.int .i64 4, .int .i64 0, .int .i64 (R : Int), .int .i64 (G : Int), .int .i64 (B : Int), .int .i64 255, .string ⟨#[]⟩] := LBlk.new w4 _ _
    have hvc : w4.heap.size ≠ c := Nat.ne_of_gt hF4.cur.lt
    have hvr : w.heap.size ≠ w4.heap.size := Nat.ne_of_lt (hr3.only ho4 hrc).1
    have hle4 : w.heap.size ≤ w4.heap.size := hF4.only.size
    clear hF3 hr3 hc4 ho4 hn4 hF4
    go_wp2_with fail
    generalize w4.alloc (.cells #[.int .i64 4, .int .i64 0, .int .i64 (R : Int), .int .i64 (G : Int), .int .i64 (B : Int), .int .i64 255, .string ⟨#[]⟩] 54) = W4 at *
    generalize w4.heap.size = bv at *
    refine (Once_draw _ c a len cap 3 hF4a.cur).mono ?_
    rintro e w5 ⟨qq, rfl, hc5, ho5⟩
    have hF5 := hF4a.call hc5 ho5
    have hr5 := hr4.only ho5 hrc
    have hv5 := hv4.only ho5 hvc
    clear hF4a hr4 hv4 hc5 ho5
    cases qq
    · obtain ⟨d0, d1, d2, d3, d4, d5, d6, _⟩ := seven_cells hv5
      obtain ⟨_, _, _, _, _, _, _, f0, f1, f2, f3, f4, f5, f6⟩ := seven_cells hr5
      go_wp2_with fail
      obtain ⟨p0, p1, p2, p3, p4, p5, p6, _⟩ := seven_cells (put7_blk hr5 (.int .i64 4) (.int .i64 0) (.int .i64 (R : Int)) (.int .i64 (G : Int)) (.int .i64 (B : Int)) (.int .i64 255) (.string ⟨#[]⟩))
      unfold put7 at p0 p1 p2 p3 p4 p5 p6
      have hFz := fr_put7 hF5 (Nat.le_refl _) hrc (.int .i64 4) (.int .i64 0) (.int .i64 (R : Int)) (.int .i64 (G : Int)) (.int .i64 (B : Int)) (.int .i64 255) (.string ⟨#[]⟩)
      exact bodyPost_ret (v := valV ⟨4, 0, (R : Int), (G : Int), (B : Int), 255, []⟩) (by simp only [results, Tryz.results155]; simp [go_sem, p0, p1, p2, p3, p4, p5, p6, valV]) rfl ⟨⟨4, 0, (R : Int), (G : Int), (B : Int), 255, []⟩, rfl, by simp, hFz.cur, hFz.only⟩
    · go_wp2_with fail
      refine (Below_draw _ c a len cap 256 hF5.cur).mono ?_
      rintro e w6 ⟨n6, hn6, rfl, hc6, ho6⟩
      obtain ⟨Q, rfl, hK6⟩ := below_nat (m := 256) hn6 (by omega)
      have hF6 := hF5.call hc6 ho6
      have hr6 := (hr5.only ho6 hrc).set_other hvr 5 (.int .i64 (Q : Int))
      have hv6 := hv5.only ho6 hvc
      obtain ⟨_, _, _, _, _, _, _, _, _, _, _, _, z5, _⟩ := seven_cells hv6
      have hv7 := hv6.set 5 (.int .i64 (Q : Int)) (by simp)
      have hF7 := hF6.set hle4 hvc 5 (.int .i64 (Q : Int))
      simp only [List.set_cons_succ, List.set_cons_zero] at hv7
      obtain ⟨d0, d1, d2, d3, d4, d5, d6, _⟩ := seven_cells hv7
      obtain ⟨_, _, _, _, _, _, _, f0, f1, f2, f3, f4, f5, f6⟩ := seven_cells hr6
      clear hF5 hc6 ho6 hn6 hv6
      go_wp2_with fail
      obtain ⟨p0, p1, p2, p3, p4, p5, p6, _⟩ := seven_cells (put7_blk hr6 (.int .i64 4) (.int .i64 0) (.int .i64 (R : Int)) (.int .i64 (G : Int)) (.int .i64 (B : Int)) (.int .i64 (Q : Int)) (.string ⟨#[]⟩))
      unfold put7 at p0 p1 p2 p3 p4 p5 p6
      have hFz := fr_put7 hF7 (Nat.le_refl _) hrc (.int .i64 4) (.int .i64 0) (.int .i64 (R : Int)) (.int .i64 (G : Int)) (.int .i64 (B : Int)) (.int .i64 (Q : Int)) (.string ⟨#[]⟩)
      exact bodyPost_ret (v := valV ⟨4, 0, (R : Int), (G : Int), (B : Int), (Q : Int), []⟩) (by simp only [results, Tryz.results155]; simp [go_sem, p0, p1, p2, p3, p4, p5, p6, valV]) rfl ⟨⟨4, 0, (R : Int), (G : Int), (B : Int), (Q : Int), []⟩, rfl, by simp, hFz.cur, hFz.only⟩
  · go_wp2_with fail
    refine (Below_draw _ c a len cap 5 (hF1.alloc _).cur).mono ?_
    rintro e w2 ⟨n2, hn2, rfl, hc2, ho2⟩
    obtain ⟨K2, rfl, hK2⟩ := below_nat (m := 5) hn2 (by omega)
    have hF2 := (hF1.alloc _).call hc2 ho2
    have hr2 := (hr1.alloc _).only ho2 hrc
    obtain ⟨t, ht, htl⟩ := kinds5_at hK2
    have hL := (LBlk.new w1 (kinds5.map fun t => Value.string ⟨t.toArray⟩) 9).only ho2 (Nat.ne_of_gt hF1.cur.lt)
    have hcell := (hL.2 K2 (.string ⟨t.toArray⟩) (by rw [List.getElem?_map, ht]; rfl)).1
    have hK' : (K2 : Int) < 5 := by omega
    have hK0 : (0 : Int) ≤ (K2 : Int) := by omega
    obtain ⟨_, _, _, _, _, _, _, f0, f1, f2, f3, f4, f5, f6⟩ := seven_cells hr2
    clear hL ht hF1 hr1 hc2 ho2 hn2
    go_wp2_with fail
    obtain ⟨p0, p1, p2, p3, p4, p5, p6, _⟩ := seven_cells (put7_blk hr2 (.int .i64 5) (.int .i64 0) (.int .i64 0) (.int .i64 0) (.int .i64 0) (.int .i64 0) (.string ⟨t.toArray⟩))
    unfold put7 at p0 p1 p2 p3 p4 p5 p6
    have hFz := fr_put7 hF2 (Nat.le_refl _) hrc (.int .i64 5) (.int .i64 0) (.int .i64 0) (.int .i64 0) (.int .i64 0) (.int .i64 0) (.string ⟨t.toArray⟩)
    exact bodyPost_ret (v := valV ⟨5, 0, 0, 0, 0, 0, t⟩) (by simp only [results, Tryz.results155]; simp [go_sem, p0, p1, p2, p3, p4, p5, p6, valV]) rfl ⟨⟨5, 0, 0, 0, 0, 0, t⟩, rfl, by show t.length ≤ 100; omega, hFz.cur, hFz.only⟩

set_option maxRecDepth 20000 in
set_option maxHeartbeats 4000000 in
theorem l6DrawAny_draw (w : World) (c : Nat) (a : Option Addr) (len cap : Nat) (h : Cur w c a len cap) :
    Calls Tryz.prog 118 #[.pointer (some ⟨c, 0, none⟩)] w (DrawnV c a len cap w) := by
  have hF0 := (Fr.refl h).alloc (.cells #[.int .i64 0, .int .i64 0, .int .i64 0, .int .i64 0, .int .i64 0, .int .i64 0, .string ⟨#[]⟩] 54)
  have hr0 : LBlk (w.alloc (.cells #[.int .i64 0, .int .i64 0, .int .i64 0, .int .i64 0, .int .i64 0, .int .i64 0, .string ⟨#[]⟩] 54)) w.heap.size [.int .i64 0, .int .i64 0, .int .i64 0, .int .i64 0, .int .i64 0, .int .i64 0, .string ⟨#[]⟩] := LBlk.new w _ _
  have hrc : w.heap.size ≠ c := Nat.ne_of_gt h.lt
  clear h
  go_enter Tryz.func118, Tryz.ntmps118
  go_wp2_with fail
  generalize w.alloc (.cells #[.int .i64 0, .int .i64 0, .int .i64 0, .int .i64 0, .int .i64 0, .int .i64 0, .string ⟨#[]⟩] 54) = W at *
  refine (l6Draw_draw _ c a len cap hF0.cur).mono ?_
  rintro e w1 ⟨y, rfl, hyt, hc1, ho1⟩
  have hF1 := hF0.call hc1 ho1
  have hr1 := hr0.only ho1 hrc
  obtain ⟨yk, yn, yr, yg, yb, yc, yt⟩ := y
  unfold valV
  dsimp only at hyt ⊢
  have hr2 := hr1.alloc (.cells #[.int .i64 yk, .int .i64 yn, .int .i64 yr, .int .i64 yg, .int .i64 yb, .int .i64 yc, .string ⟨yt.toArray⟩] 54)
  have hF2 := hF1.alloc (.cells #[.int .i64 yk, .int .i64 yn, .int .i64 yr, .int .i64 yg, .int .i64 yb, .int .i64 yc, .string ⟨yt.toArray⟩] 54)
  have hv2 : LBlk (w1.alloc (.cells #[.int .i64 yk, .int .i64 yn, .int .i64 yr, .int .i64 yg, .int .i64 yb, .int .i64 yc, .string ⟨yt.toArray⟩] 54)) w1.heap.size [.int .i64 yk, .int .i64 yn, .int .i64 yr, .int .i64 yg, .int .i64 yb, .int .i64 yc, .string ⟨yt.toArray⟩] := LBlk.new w1 _ _
  have hvc : w1.heap.size ≠ c := Nat.ne_of_gt hF1.cur.lt
  have hvr : w.heap.size ≠ w1.heap.size := Nat.ne_of_lt hr1.1
  have hle : w.heap.size ≤ w1.heap.size := hF1.only.size
  clear hF0 hr0 hc1 ho1 hF1 hr1
  go_wp2_with fail
  generalize w1.alloc (.cells #[.int .i64 yk, .int .i64 yn, .int .i64 yr, .int .i64 yg, .int .i64 yb, .int .i64 yc, .string ⟨yt.toArray⟩] 54) = W1 at *
  generalize w1.heap.size = bv at *
  refine (Once_draw _ c a len cap 8 hF2.cur).mono ?_
  rintro e w3 ⟨qq, rfl, hc3, ho3⟩
  have hF3 := hF2.call hc3 ho3
  have hr3 := hr2.only ho3 hrc
  have hv3 := hv2.only ho3 hvc
  clear hF2 hr2 hv2 hc3 ho3
  cases qq
  · have hvz := hv3
    have hrz := hr3
    obtain ⟨d0, d1, d2, d3, d4, d5, d6, _⟩ := seven_cells hvz
    obtain ⟨_, _, _, _, _, _, _, f0, f1, f2, f3, f4, f5, f6⟩ := seven_cells hrz
    go_wp2_with fail
    obtain ⟨p0, p1, p2, p3, p4, p5, p6, _⟩ := seven_cells (put7_blk hrz (.int .i64 yk) (.int .i64 yn) (.int .i64 yr) (.int .i64 yg) (.int .i64 yb) (.int .i64 yc) (.string ⟨yt.toArray⟩))
    unfold put7 at p0 p1 p2 p3 p4 p5 p6
    have hFz := fr_put7 hF3 (Nat.le_refl _) hrc (.int .i64 yk) (.int .i64 yn) (.int .i64 yr) (.int .i64 yg) (.int .i64 yb) (.int .i64 yc) (.string ⟨yt.toArray⟩)
    exact bodyPost_ret (v := valV ⟨yk, yn, yr, yg, yb, yc, yt⟩) (by simp only [results, Tryz.results118]; simp [go_sem, p0, p1, p2, p3, p4, p5, p6, valV]) rfl ⟨⟨yk, yn, yr, yg, yb, yc, yt⟩, rfl, hyt, hFz.cur, hFz.only⟩
  · go_wp2_with fail
    refine (Below_draw _ c a len cap 4 hF3.cur).mono ?_
    rintro e w4 ⟨n4, hn4, rfl, hc4, ho4⟩
    obtain ⟨K4, rfl, hK4⟩ := below_nat (m := 4) hn4 (by omega)
    have hF4 := hF3.call hc4 ho4
    have hr4 := hr3.only ho4 hrc
    have hv4 := hv3.only ho4 hvc
    clear hF3 hr3 hv3 hc4 ho4 hn4
    have hK5 : K4 = 0 ∨ K4 = 1 ∨ K4 = 2 ∨ K4 = 3 := by omega
    rcases hK5 with rfl | rfl | rfl | rfl
    · go_wp2_with fail
      refine (From_draw _ c a len cap 0 6 hF4.cur (by omega) (by omega) (by omega)).mono ?_
      rintro e w5 ⟨z, hz, rfl, hc5, ho5⟩
      have hF5 := hF4.call hc5 ho5
      have hr5 := hr4.only ho5 hrc
      have hv5 := hv4.only ho5 hvc
      have hrz := hr5.set_other hvr 0 (.int .i64 z)
      have hvz := hv5.set 0 (.int .i64 z) (by simp)
      have hFy := hF5.set hle hvc 0 (.int .i64 z)
      obtain ⟨_, _, _, _, _, _, _, z0, z1, z2, z3, z4, z5, z6⟩ := seven_cells hv5
      simp only [List.set_cons_zero] at hvz
      clear hF4 hr4 hv4 hc5 ho5
      obtain ⟨d0, d1, d2, d3, d4, d5, d6, _⟩ := seven_cells hvz
      obtain ⟨_, _, _, _, _, _, _, f0, f1, f2, f3, f4, f5, f6⟩ := seven_cells hrz
      go_wp2_with fail
      obtain ⟨p0, p1, p2, p3, p4, p5, p6, _⟩ := seven_cells (put7_blk hrz (.int .i64 z) (.int .i64 yn) (.int .i64 yr) (.int .i64 yg) (.int .i64 yb) (.int .i64 yc) (.string ⟨yt.toArray⟩))
      unfold put7 at p0 p1 p2 p3 p4 p5 p6
      have hFz := fr_put7 hFy (Nat.le_refl _) hrc (.int .i64 z) (.int .i64 yn) (.int .i64 yr) (.int .i64 yg) (.int .i64 yb) (.int .i64 yc) (.string ⟨yt.toArray⟩)
      exact bodyPost_ret (v := valV ⟨z, yn, yr, yg, yb, yc, yt⟩) (by simp only [results, Tryz.results118]; simp [go_sem, p0, p1, p2, p3, p4, p5, p6, valV]) rfl ⟨⟨z, yn, yr, yg, yb, yc, yt⟩, rfl, hyt, hFz.cur, hFz.only⟩
    · go_wp2_with fail
      refine (Below_draw _ c a len cap 4 (hF4.alloc _).cur).mono ?_
      rintro e w5 ⟨n5, hn5, rfl, hc5, ho5⟩
      obtain ⟨K5, rfl, hK5⟩ := below_nat (m := 4) hn5 (by omega)
      have hF5 := (hF4.alloc _).call hc5 ho5
      have hr5 := (hr4.alloc _).only ho5 hrc
      have hv5 := (hv4.alloc _).only ho5 hvc
      obtain ⟨t, ht⟩ : ∃ t, ([-1000001, -1000000, 1000000, 1000001] : List Int)[K5]? = some t := ⟨_, List.getElem?_eq_getElem hK5⟩
      have hL := (LBlk.new w4 (([-1000001, -1000000, 1000000, 1000001] : List Int).map fun z => Value.int .i64 z) 2).only ho5 (Nat.ne_of_gt hF4.cur.lt)
      have hcell := (hL.2 K5 (.int .i64 t) (by rw [List.getElem?_map, ht]; rfl)).1
      have hK' : (K5 : Int) < 4 := by omega
      have hK0 : (0 : Int) ≤ (K5 : Int) := by omega
      have hrz := hr5.set_other hvr 1 (.int .i64 t)
      have hvz := hv5.set 1 (.int .i64 t) (by simp)
      have hFy := hF5.set hle hvc 1 (.int .i64 t)
      obtain ⟨_, _, _, _, _, _, _, z0, z1, z2, z3, z4, z5, z6⟩ := seven_cells hv5
      simp only [List.set_cons_succ, List.set_cons_zero] at hvz
      clear hF4 hr4 hv4 hc5 ho5 hL ht hn5
      obtain ⟨d0, d1, d2, d3, d4, d5, d6, _⟩ := seven_cells hvz
      obtain ⟨_, _, _, _, _, _, _, f0, f1, f2, f3, f4, f5, f6⟩ := seven_cells hrz
      go_wp2_with fail
      obtain ⟨p0, p1, p2, p3, p4, p5, p6, _⟩ := seven_cells (put7_blk hrz (.int .i64 yk) (.int .i64 t) (.int .i64 yr) (.int .i64 yg) (.int .i64 yb) (.int .i64 yc) (.string ⟨yt.toArray⟩))
      unfold put7 at p0 p1 p2 p3 p4 p5 p6
      have hFz := fr_put7 hFy (Nat.le_refl _) hrc (.int .i64 yk) (.int .i64 t) (.int .i64 yr) (.int .i64 yg) (.int .i64 yb) (.int .i64 yc) (.string ⟨yt.toArray⟩)
      exact bodyPost_ret (v := valV ⟨yk, t, yr, yg, yb, yc, yt⟩) (by simp only [results, Tryz.results118]; simp [go_sem, p0, p1, p2, p3, p4, p5, p6, valV]) rfl ⟨⟨yk, t, yr, yg, yb, yc, yt⟩, rfl, hyt, hFz.cur, hFz.only⟩
    · go_wp2_with fail
      refine (Below_draw _ c a len cap 2 (hF4.alloc _).cur).mono ?_
      rintro e w5 ⟨n5, hn5, rfl, hc5, ho5⟩
      obtain ⟨K5, rfl, hK5⟩ := below_nat (m := 2) hn5 (by omega)
      have hF5 := (hF4.alloc _).call hc5 ho5
      have hr5 := (hr4.alloc _).only ho5 hrc
      have hv5 := (hv4.alloc _).only ho5 hvc
      obtain ⟨t, ht⟩ : ∃ t, ([-1, 256] : List Int)[K5]? = some t := ⟨_, List.getElem?_eq_getElem hK5⟩
      have hL := (LBlk.new w4 (([-1, 256] : List Int).map fun z => Value.int .i64 z) 2).only ho5 (Nat.ne_of_gt hF4.cur.lt)
      have hcell := (hL.2 K5 (.int .i64 t) (by rw [List.getElem?_map, ht]; rfl)).1
      have hK' : (K5 : Int) < 2 := by omega
      have hK0 : (0 : Int) ≤ (K5 : Int) := by omega
      have hrz := hr5.set_other hvr 2 (.int .i64 t)
      have hvz := hv5.set 2 (.int .i64 t) (by simp)
      have hFy := hF5.set hle hvc 2 (.int .i64 t)
      obtain ⟨_, _, _, _, _, _, _, z0, z1, z2, z3, z4, z5, z6⟩ := seven_cells hv5
      simp only [List.set_cons_succ, List.set_cons_zero] at hvz
      clear hF4 hr4 hv4 hc5 ho5 hL ht hn5
      obtain ⟨d0, d1, d2, d3, d4, d5, d6, _⟩ := seven_cells hvz
      obtain ⟨_, _, _, _, _, _, _, f0, f1, f2, f3, f4, f5, f6⟩ := seven_cells hrz
      go_wp2_with fail
      obtain ⟨p0, p1, p2, p3, p4, p5, p6, _⟩ := seven_cells (put7_blk hrz (.int .i64 yk) (.int .i64 yn) (.int .i64 t) (.int .i64 yg) (.int .i64 yb) (.int .i64 yc) (.string ⟨yt.toArray⟩))
      unfold put7 at p0 p1 p2 p3 p4 p5 p6
      have hFz := fr_put7 hFy (Nat.le_refl _) hrc (.int .i64 yk) (.int .i64 yn) (.int .i64 t) (.int .i64 yg) (.int .i64 yb) (.int .i64 yc) (.string ⟨yt.toArray⟩)
      exact bodyPost_ret (v := valV ⟨yk, yn, t, yg, yb, yc, yt⟩) (by simp only [results, Tryz.results118]; simp [go_sem, p0, p1, p2, p3, p4, p5, p6, valV]) rfl ⟨⟨yk, yn, t, yg, yb, yc, yt⟩, rfl, hyt, hFz.cur, hFz.only⟩
    · go_wp2_with fail
      refine (Below_draw _ c a len cap 4 (hF4.alloc _).cur).mono ?_
      rintro e w5 ⟨n5, hn5, rfl, hc5, ho5⟩
      obtain ⟨K5, rfl, hK5⟩ := below_nat (m := 4) hn5 (by omega)
      have hF5 := (hF4.alloc _).call hc5 ho5
      have hr5 := (hr4.alloc _).only ho5 hrc
      have hv5 := (hv4.alloc _).only ho5 hvc
      obtain ⟨t, ht, htl⟩ := words4_at hK5
      have hL := (LBlk.new w4 (words4.map fun t => Value.string ⟨t.toArray⟩) 9).only ho5 (Nat.ne_of_gt hF4.cur.lt)
      have hcell := (hL.2 K5 (.string ⟨t.toArray⟩) (by rw [List.getElem?_map, ht]; rfl)).1
      have hK' : (K5 : Int) < 4 := by omega
      have hK0 : (0 : Int) ≤ (K5 : Int) := by omega
      have hrz := hr5.set_other hvr 6 (.string ⟨t.toArray⟩)
      have hvz := hv5.set 6 (.string ⟨t.toArray⟩) (by simp)
      have hFy := hF5.set hle hvc 6 (.string ⟨t.toArray⟩)
      obtain ⟨_, _, _, _, _, _, _, z0, z1, z2, z3, z4, z5, z6⟩ := seven_cells hv5
      simp only [List.set_cons_succ, List.set_cons_zero] at hvz
      clear hF4 hr4 hv4 hc5 ho5 hL ht hn5
      obtain ⟨d0, d1, d2, d3, d4, d5, d6, _⟩ := seven_cells hvz
      obtain ⟨_, _, _, _, _, _, _, f0, f1, f2, f3, f4, f5, f6⟩ := seven_cells hrz
      go_wp2_with fail
      obtain ⟨p0, p1, p2, p3, p4, p5, p6, _⟩ := seven_cells (put7_blk hrz (.int .i64 yk) (.int .i64 yn) (.int .i64 yr) (.int .i64 yg) (.int .i64 yb) (.int .i64 yc) (.string ⟨t.toArray⟩))
      unfold put7 at p0 p1 p2 p3 p4 p5 p6
      have hFz := fr_put7 hFy (Nat.le_refl _) hrc (.int .i64 yk) (.int .i64 yn) (.int .i64 yr) (.int .i64 yg) (.int .i64 yb) (.int .i64 yc) (.string ⟨t.toArray⟩)
      exact bodyPost_ret (v := valV ⟨yk, yn, yr, yg, yb, yc, t⟩) (by simp only [results, Tryz.results118]; simp [go_sem, p0, p1, p2, p3, p4, p5, p6, valV]) rfl ⟨⟨yk, yn, yr, yg, yb, yc, t⟩, rfl, by show t.length ≤ 100; omega, hFz.cur, hFz.only⟩

end Go.Proofs.YtliihnkonakacaaGreatDoor.D6

namespace Go.Proofs.YtliihnkonakacaaGreatDoor.D8
open Go.Proofs.YtliihnkonakacaaGreatDoor.P1 Go.Proofs.YtliihnkonakacaaGreatDoor.B1 Go.Proofs.YtliihnkonakacaaGreatDoor.B2 Go.Proofs.YtliihnkonakacaaGreatDoor.T1 Go.Proofs.YtliihnkonakacaaGreatDoor.BT Go.Proofs.YtliihnkonakacaaGreatDoor.P5 Go.Proofs.YtliihnkonakacaaGreatDoor.P6 Go.Proofs.YtliihnkonakacaaGreatDoor.B5 Go.Proofs.YtliihnkonakacaaGreatDoor.B6 Go.Proofs.YtliihnkonakacaaGreatDoor.S7 Go.Proofs.YtliihnkonakacaaGreatDoor.D1 Go.Proofs.YtliihnkonakacaaGreatDoor.D2 Go.Proofs.YtliihnkonakacaaGreatDoor.DB Go.Proofs.YtliihnkonakacaaGreatDoor.D5 Go.Proofs.YtliihnkonakacaaGreatDoor.D6 Go.Proofs.YtliihnkonakacaaGreatDoor.RI
open Go.ChangeShapes Go.WideShapes Go.ChangeAt Go.RowKit
set_option linter.unusedVariables false

/-- What l8Draw answers. -/
def InLook (n : Int) : Prop := -1 ≤ n ∧ n ≤ 6

set_option maxHeartbeats 1000000 in
theorem l8Draw_draw (w : World) (c : Nat) (a : Option Addr) (len cap : Nat) (h : Cur w c a len cap) :
    Calls Tryz.prog 117 #[.pointer (some ⟨c, 0, none⟩)] w (Drawn InLook c a len cap w) := by
  go_enter Tryz.func117, Tryz.ntmps117
  go_wp2_with fail
  refine (Once_draw _ c a len cap 10 h).mono ?_
  rintro e w1 ⟨b, rfl, hc1, ho1⟩
  cases b
  · go_wp2_with fail
    refine (Below_draw _ c a len cap 6 hc1).mono ?_
    rintro e w2 ⟨x, ⟨hx0, hx1, _⟩, rfl, hc2, ho2⟩
    go_wp2
    go_ret
    exact ⟨x, ⟨by omega, by omega⟩, rfl, hc2, ho1.trans ho2⟩
  · go_wp2_with fail
    refine (Below_draw _ c a len cap 2 (hc1.alloc _)).mono ?_
    rintro e w2 ⟨x, ⟨hx0, hx1, _⟩, rfl, hc2, ho2⟩
    have hx1' := hx1 (by omega)
    clear hx1
    obtain ⟨v, hv, hcell⟩ := made_cell [-1, 6] _ ho2 hc1.lt hx0 (by simpa using hx1')
    have hvb : InLook v := by unfold InLook; simp at hv; omega
    clear hv
    have hk := (ho1.trans (only_new w1 _ c)).trans ho2
    go_wp2
    go_ret
    exact ⟨v, hvb, rfl, hc2, hk⟩

def shows2 : List (List UInt8) := [[115, 104, 111, 119, 110], [104, 105, 100, 100, 101, 110]]

theorem shows2_at {k : Nat} (h : k < 2) : ∃ t, shows2[k]? = some t ∧ t.length ≤ 10 := by
  have : k = 0 ∨ k = 1 := by omega
  rcases this with rfl | rfl <;> exact ⟨_, rfl, by decide⟩

def forms3 : List (List UInt8) := [[112, 108, 97, 105, 110], [114, 111, 117, 110, 100], [104, 105, 100, 100, 101, 110]]

theorem forms3_at {k : Nat} (h : k < 3) : ∃ t, forms3[k]? = some t ∧ t.length ≤ 10 := by
  have : k = 0 ∨ k = 1 ∨ k = 2 := by omega
  rcases this with rfl | rfl | rfl <;> exact ⟨_, rfl, by decide⟩

/-- The region of a length: what its operations leave. -/
def lenB (c : Nat) (a : Option Addr) (len cap : Nat) (w0 : World) (f : Nat → Bool) (w : World) : Prop :=
  Fr c a len cap w0 w ∧ ∃ u0 u1 u2 u3 u4 u5 u6, LBlk w w0.heap.size [u0, u1, u2, u3, u4, u5, u6] ∧ (f 8 = true → ∃ K N : Int, [u0, u1, u2, u3, u4, u5, u6] = [.int .i64 K, .int .i64 N, .int .i64 0, .int .i64 0, .int .i64 0, .int .i64 0, .string ⟨#[]⟩])

def three : List Value := [.int .i64 2, .int .i64 2, .int .i64 3]

def lenF (c r : Nat) (i : Nat) (v : Value) (w : World) : Prop := match i with
  | 0 => ∃ g, v = .slice (some ⟨g, 0, none⟩) 3 3 ∧ r < g ∧ LBlk w g three
  | 1 => v = .pointer (some ⟨c, 0, none⟩)
  | 2 => ∃ K : Nat, K < 3 ∧ v = .int .i64 (K : Int)
  | 3 => ∃ g K, K < 3 ∧ v = .pointer (some ⟨g, K, none⟩) ∧ r < g ∧ LBlk w g three
  | 4 => ∃ n : Int, v = .int .i64 n
  | 5 => v = .pointer (some ⟨c, 0, none⟩)
  | 6 => ∃ n : Int, v = .int .i64 n
  | 7 => ∃ K N : Int, v = .agg #[.int .i64 K, .int .i64 N, .int .i64 0, .int .i64 0, .int .i64 0, .int .i64 0, .string ⟨#[]⟩]
  | _ => True

def lenD (i : Nat) : Option Nat := match i with
  | 0 => some 36
  | 1 => some 37
  | 2 => some 38
  | 3 => some 39
  | 4 => some 40
  | 5 => some 41
  | 6 => some 42
  | 7 => some 43
  | _ => none

theorem lenF_keep {c r : Nat} {w w' : World} (hk : ∀ g, r < g → LBlk w g three → LBlk w' g three) (j : Nat) (v : Value) (hj : j < 9) (h : lenF c r j v w) : lenF c r j v w' := by
  have : j = 0 ∨ j = 1 ∨ j = 2 ∨ j = 3 ∨ j = 4 ∨ j = 5 ∨ j = 6 ∨ j = 7 ∨ j = 8 := by omega
  rcases this with rfl | rfl | rfl | rfl | rfl | rfl | rfl | rfl | rfl
  · obtain ⟨g, e, hg, ht⟩ := h; exact ⟨g, e, hg, hk g hg ht⟩
  · exact h
  · exact h
  · obtain ⟨g, K, hK, e, hg, ht⟩ := h; exact ⟨g, K, hK, e, hg, hk g hg ht⟩
  · exact h
  · exact h
  · exact h
  · exact h
  · exact h

set_option maxRecDepth 20000 in
set_option maxHeartbeats 4000000 in
theorem l8DrawValue_draw (w : World) (c : Nat) (a : Option Addr) (len cap : Nat) (l : Int) (h : Cur w c a len cap) :
    Calls Tryz.prog 154 #[.pointer (some ⟨c, 0, none⟩), .int .i64 l] w (DrawnV c a len cap w) := by
  have hF1 := (Fr.refl h).alloc (.cells #[.int .i64 0, .int .i64 0, .int .i64 0, .int .i64 0, .int .i64 0, .int .i64 0, .string ⟨#[]⟩] 54)
  have hr1 : LBlk (w.alloc (.cells #[.int .i64 0, .int .i64 0, .int .i64 0, .int .i64 0, .int .i64 0, .int .i64 0, .string ⟨#[]⟩] 54)) w.heap.size [.int .i64 0, .int .i64 0, .int .i64 0, .int .i64 0, .int .i64 0, .int .i64 0, .string ⟨#[]⟩] := LBlk.new w _ _
  have hrc : w.heap.size ≠ c := Nat.ne_of_gt h.lt
  have hcw := h.lt
  clear h
  by_cases h0 : l = 0
  · subst h0
    go_enter Tryz.func154, Tryz.ntmps154
    go_wp2_with fail
    generalize w.alloc (.cells #[.int .i64 0, .int .i64 0, .int .i64 0, .int .i64 0, .int .i64 0, .int .i64 0, .string ⟨#[]⟩] 54) = W at *
    refine (Below_draw _ c a len cap 1001 hF1.cur).mono ?_
    rintro e w2 ⟨n2, hn2, rfl, hc2, ho2⟩
    obtain ⟨K2, rfl, hK2⟩ := below_nat (m := 1001) hn2 (by omega)
    have hF2 := hF1.call hc2 ho2
    have hr2 := hr1.only ho2 hrc
    clear hF1 hr1 hc2 ho2 hn2
    obtain ⟨_, _, _, _, _, _, _, f0, f1, f2, f3, f4, f5, f6⟩ := seven_cells hr2
    go_wp2_with fail
    obtain ⟨p0, p1, p2, p3, p4, p5, p6, _⟩ := seven_cells (put7_blk hr2 (.int .i64 1) (.int .i64 (K2 : Int)) (.int .i64 0) (.int .i64 0) (.int .i64 0) (.int .i64 0) (.string ⟨#[]⟩))
    unfold put7 at p0 p1 p2 p3 p4 p5 p6
    have hFz := D6.fr_put7 hF2 (Nat.le_refl _) hrc (.int .i64 1) (.int .i64 (K2 : Int)) (.int .i64 0) (.int .i64 0) (.int .i64 0) (.int .i64 0) (.string ⟨#[]⟩)
    exact bodyPost_ret (v := valV ⟨1, (K2 : Int), 0, 0, 0, 0, []⟩) (by simp only [results, Tryz.results154]; simp [go_sem, p0, p1, p2, p3, p4, p5, p6, valV]) rfl ⟨⟨1, (K2 : Int), 0, 0, 0, 0, []⟩, rfl, by simp, hFz.cur, hFz.only⟩
  · by_cases h3 : l = 3
    · subst h3
      clear h0
      go_enter Tryz.func154, Tryz.ntmps154
      go_wp2_with fail
      generalize w.alloc (.cells #[.int .i64 0, .int .i64 0, .int .i64 0, .int .i64 0, .int .i64 0, .int .i64 0, .string ⟨#[]⟩] 54) = W at *
      refine (Below_draw _ c a len cap 256 hF1.cur).mono ?_
      rintro e w2 ⟨n2, hn2, rfl, hc2, ho2⟩
      obtain ⟨R, rfl, hK2⟩ := below_nat (m := 256) hn2 (by omega)
      have hF2 := hF1.call hc2 ho2
      have hr2 := hr1.only ho2 hrc
      clear hF1 hr1 hc2 ho2 hn2
      go_wp2_with fail
      refine (Below_draw _ c a len cap 256 hF2.cur).mono ?_
      rintro e w3 ⟨n3, hn3, rfl, hc3, ho3⟩
      obtain ⟨G, rfl, hK3⟩ := below_nat (m := 256) hn3 (by omega)
      have hF3 := hF2.call hc3 ho3
      have hr3 := hr2.only ho3 hrc
      clear hF2 hr2 hc3 ho3 hn3
      go_wp2_with fail
      refine (Below_draw _ c a len cap 256 hF3.cur).mono ?_
      rintro e w4 ⟨n4, hn4, rfl, hc4, ho4⟩
      obtain ⟨B, rfl, hK4⟩ := below_nat (m := 256) hn4 (by omega)
      have hF4 := hF3.call hc4 ho4
      have hr4 := hr3.only ho4 hrc
      clear hF3 hr3 hc4 ho4 hn4
      obtain ⟨_, _, _, _, _, _, _, f0, f1, f2, f3, f4, f5, f6⟩ := seven_cells hr4
      go_wp2_with fail
      obtain ⟨p0, p1, p2, p3, p4, p5, p6, _⟩ := seven_cells (put7_blk hr4 (.int .i64 4) (.int .i64 0) (.int .i64 (R : Int)) (.int .i64 (G : Int)) (.int .i64 (B : Int)) (.int .i64 255) (.string ⟨#[]⟩))
      unfold put7 at p0 p1 p2 p3 p4 p5 p6
      have hFz := D6.fr_put7 hF4 (Nat.le_refl _) hrc (.int .i64 4) (.int .i64 0) (.int .i64 (R : Int)) (.int .i64 (G : Int)) (.int .i64 (B : Int)) (.int .i64 255) (.string ⟨#[]⟩)
      exact bodyPost_ret (v := valV ⟨4, 0, (R : Int), (G : Int), (B : Int), 255, []⟩) (by simp only [results, Tryz.results154]; simp [go_sem, p0, p1, p2, p3, p4, p5, p6, valV]) rfl ⟨⟨4, 0, (R : Int), (G : Int), (B : Int), 255, []⟩, rfl, by simp, hFz.cur, hFz.only⟩
    · by_cases h4 : l = 4
      · subst h4
        clear h0 h3
        go_enter Tryz.func154, Tryz.ntmps154
        go_wp2_with fail
        have hsz : (w.alloc (.cells #[.int .i64 0, .int .i64 0, .int .i64 0, .int .i64 0, .int .i64 0, .int .i64 0, .string ⟨#[]⟩] 54)).heap.size = w.heap.size + 1 := by simp
        generalize w.alloc (.cells #[.int .i64 0, .int .i64 0, .int .i64 0, .int .i64 0, .int .i64 0, .int .i64 0, .string ⟨#[]⟩] 54) = W at *
        refine (Below_draw _ c a len cap 2 (hF1.alloc _).cur).mono ?_
        rintro e w2 ⟨n2, hn2, rfl, hc2, ho2⟩
        obtain ⟨K2, rfl, hK2⟩ := below_nat (m := 2) hn2 (by omega)
        have hF2 := (hF1.alloc _).call hc2 ho2
        have hr2 := (hr1.alloc _).only ho2 hrc
        obtain ⟨t, ht, htl⟩ := shows2_at hK2
        have hL := (LBlk.new _ (shows2.map fun t => Value.string ⟨t.toArray⟩) 9).only ho2 (Nat.ne_of_gt hF1.cur.lt)
        have hcell := (hL.2 K2 (.string ⟨t.toArray⟩) (by rw [List.getElem?_map, ht]; rfl)).1
        rw [hsz] at hcell
        have hK' : (K2 : Int) < 2 := by omega
        have hK0 : (0 : Int) ≤ (K2 : Int) := by omega
        obtain ⟨_, _, _, _, _, _, _, f0, f1, f2, f3, f4, f5, f6⟩ := seven_cells hr2
        clear hL ht hF1 hr1 hc2 ho2 hn2
        go_wp2_with fail
        obtain ⟨p0, p1, p2, p3, p4, p5, p6, _⟩ := seven_cells (put7_blk hr2 (.int .i64 5) (.int .i64 0) (.int .i64 0) (.int .i64 0) (.int .i64 0) (.int .i64 0) (.string ⟨t.toArray⟩))
        unfold put7 at p0 p1 p2 p3 p4 p5 p6
        have hFz := D6.fr_put7 hF2 (Nat.le_refl _) hrc (.int .i64 5) (.int .i64 0) (.int .i64 0) (.int .i64 0) (.int .i64 0) (.int .i64 0) (.string ⟨t.toArray⟩)
        exact bodyPost_ret (v := valV ⟨5, 0, 0, 0, 0, 0, t⟩) (by simp only [results, Tryz.results154]; simp [go_sem, p0, p1, p2, p3, p4, p5, p6, valV]) rfl ⟨⟨5, 0, 0, 0, 0, 0, t⟩, rfl, by show t.length ≤ 100; omega, hFz.cur, hFz.only⟩
      · by_cases h5 : l = 5
        · subst h5
          clear h0 h3 h4
          go_enter Tryz.func154, Tryz.ntmps154
          go_wp2_with fail
          have hsz : (w.alloc (.cells #[.int .i64 0, .int .i64 0, .int .i64 0, .int .i64 0, .int .i64 0, .int .i64 0, .string ⟨#[]⟩] 54)).heap.size = w.heap.size + 1 := by simp
          generalize w.alloc (.cells #[.int .i64 0, .int .i64 0, .int .i64 0, .int .i64 0, .int .i64 0, .int .i64 0, .string ⟨#[]⟩] 54) = W at *
          refine (Below_draw _ c a len cap 3 (hF1.alloc _).cur).mono ?_
          rintro e w2 ⟨n2, hn2, rfl, hc2, ho2⟩
          obtain ⟨K2, rfl, hK2⟩ := below_nat (m := 3) hn2 (by omega)
          have hF2 := (hF1.alloc _).call hc2 ho2
          have hr2 := (hr1.alloc _).only ho2 hrc
          obtain ⟨t, ht, htl⟩ := forms3_at hK2
          have hL := (LBlk.new _ (forms3.map fun t => Value.string ⟨t.toArray⟩) 9).only ho2 (Nat.ne_of_gt hF1.cur.lt)
          have hcell := (hL.2 K2 (.string ⟨t.toArray⟩) (by rw [List.getElem?_map, ht]; rfl)).1
          rw [hsz] at hcell
          have hK' : (K2 : Int) < 3 := by omega
          have hK0 : (0 : Int) ≤ (K2 : Int) := by omega
          obtain ⟨_, _, _, _, _, _, _, f0, f1, f2, f3, f4, f5, f6⟩ := seven_cells hr2
          clear hL ht hF1 hr1 hc2 ho2 hn2
          go_wp2_with fail
          obtain ⟨p0, p1, p2, p3, p4, p5, p6, _⟩ := seven_cells (put7_blk hr2 (.int .i64 5) (.int .i64 0) (.int .i64 0) (.int .i64 0) (.int .i64 0) (.int .i64 0) (.string ⟨t.toArray⟩))
          unfold put7 at p0 p1 p2 p3 p4 p5 p6
          have hFz := D6.fr_put7 hF2 (Nat.le_refl _) hrc (.int .i64 5) (.int .i64 0) (.int .i64 0) (.int .i64 0) (.int .i64 0) (.int .i64 0) (.string ⟨t.toArray⟩)
          exact bodyPost_ret (v := valV ⟨5, 0, 0, 0, 0, 0, t⟩) (by simp only [results, Tryz.results154]; simp [go_sem, p0, p1, p2, p3, p4, p5, p6, valV]) rfl ⟨⟨5, 0, 0, 0, 0, 0, t⟩, rfl, by show t.length ≤ 100; omega, hFz.cur, hFz.only⟩
        · have e0 : (l == 0) = false := by simpa using h0
          have e3 : (l == 3) = false := by simpa using h3
          have e4 : (l == 4) = false := by simpa using h4
          have e5 : (l == 5) = false := by simpa using h5
          clear h0 h3 h4 h5
          go_enter Tryz.func154, Tryz.ntmps154
          go_wp2_with fail
          generalize w.alloc (.cells #[.int .i64 0, .int .i64 0, .int .i64 0, .int .i64 0, .int .i64 0, .int .i64 0, .string ⟨#[]⟩] 54) = W at *
          refine region_inv (by kernel_rfl) (Inv 9 44 lenD [(0, .pointer (some ⟨c, 0, none⟩)), (4, .pointer (some ⟨w.heap.size, 0, none⟩))] (lenB c a len cap w) (lenF c w.heap.size)) ?_ ?_ ?_
          · refine Inv.start rfl rfl ?_ ⟨hF1.drew, _, _, _, _, _, _, _, hr1, fun h => by cases h⟩
            simp
          · clear hF1 hr1
            intro L A W hL hJ i hi
            have hi9 : i < 9 := by
              unfold Region.ready at hi
              rw [List.mem_filter] at hi
              simpa using hi.1
            have s0 := hJ.ks (0, .pointer (some ⟨c, 0, none⟩)) (by simp)
            have s4 := hJ.ks (4, .pointer (some ⟨w.heap.size, 0, none⟩)) (by simp)
            obtain ⟨hFr, u0, u1, u2, u3, u4, u5, u6, hr, her⟩ := hJ.bs
            have hok : okI 9 44 lenD [0, 4] = true := by decide
            have hcase : i = 0 ∨ i = 1 ∨ i = 2 ∨ i = 3 ∨ i = 4 ∨ i = 5 ∨ i = 6 ∨ i = 7 ∨ i = 8 := by omega
            rcases hcase with rfl | rfl | rfl | rfl | rfl | rfl | rfl | rfl | rfl
            · refine wpOp_of rfl rfl (wp_value (v := .slice (some ⟨W.heap.size, 0, none⟩) 3 3) (W' := W.alloc (.cells three.toArray 2)) ?_ (Inv.step hok hJ hL (i := 0) (by decide) _ rfl ⟨hFr.alloc _, _, _, _, _, _, _, _, hr.alloc _, her⟩ (lenF_keep fun g hg ht => ht.alloc _) ⟨W.heap.size, rfl, hr.1, LBlk.new W _ _⟩))
              unfold three
              go_simp
            · refine wpOp_of rfl rfl (wp_value (v := .pointer (some ⟨c, 0, none⟩)) (W' := W) ?_ (Inv.step hok hJ hL (i := 1) (by decide) _ rfl ⟨hFr, _, _, _, _, _, _, _, hr, her⟩ (fun _ _ _ h => h) rfl))
              simp [execOp, Act.eval, s0, go_sem]
            · obtain ⟨hnot, hdep⟩ := ready_of hL rfl hi
              have l1 : L[1]?.getD false = true := hdep ⟨1, .data⟩ (by simp) rfl
              have hs : A.tmps[37]?.getD undef = .pointer (some ⟨c, 0, none⟩) := hJ.fs 1 (by decide) 37 rfl l1
              refine wpOp_of rfl rfl (wp_enter (f := 94) (args := #[.pointer (some ⟨c, 0, none⟩), .int .i64 3]) ?_ ?_)
              · simp [execOp, Act.eval, hs, go_sem]
              · refine (Below_draw _ _ a len cap 3 hFr.cur).mono ?_
                rintro e w4 ⟨n, hn, rfl, hc4, ho4⟩
                obtain ⟨K, rfl, hK⟩ := below_nat (m := 3) hn (by omega)
                exact ⟨_, rfl, Inv.step hok hJ hL (i := 2) (by decide) _ rfl ⟨hFr.call hc4 ho4, _, _, _, _, _, _, _, hr.only ho4 hrc, her⟩ (lenF_keep fun g hg ht => ht.only ho4 (by omega)) ⟨K, hK, rfl⟩⟩
            · obtain ⟨hnot, hdep⟩ := ready_of hL rfl hi
              have l0 : L[0]?.getD false = true := hdep ⟨0, .data⟩ (by simp) rfl
              have l2 : L[2]?.getD false = true := hdep ⟨2, .data⟩ (by simp) rfl
              obtain ⟨g, es, hg, ht⟩ := hJ.fs 0 (by decide) 36 rfl l0
              obtain ⟨K, hK, ek⟩ := hJ.fs 2 (by decide) 38 rfl l2
              have hK0 : (0 : Int) ≤ (K : Int) := by omega
              have hK2 : (K : Int) < 3 := by omega
              refine wpOp_of rfl rfl (wp_value (v := .pointer (some ⟨g, K, none⟩)) (W' := W) ?_ (Inv.step hok hJ hL (i := 3) (by decide) _ rfl ⟨hFr, _, _, _, _, _, _, _, hr, her⟩ (fun _ _ _ h => h) ⟨g, K, hK, rfl, hg, ht⟩))
              simp [execOp, Act.eval, es, ek]
              go_simp
            · obtain ⟨hnot, hdep⟩ := ready_of hL rfl hi
              have l3 : L[3]?.getD false = true := hdep ⟨3, .data⟩ (by simp) rfl
              obtain ⟨g, K, hK, ep, hg, ht⟩ := hJ.fs 3 (by decide) 39 rfl l3
              obtain ⟨n, hcell⟩ : ∃ n : Int, W.cell? ⟨g, K, none⟩ = some (.int .i64 n) := by
                have : K = 0 ∨ K = 1 ∨ K = 2 := by omega
                rcases this with rfl | rfl | rfl
                · exact ⟨_, (ht.2 0 _ rfl).1⟩
                · exact ⟨_, (ht.2 1 _ rfl).1⟩
                · exact ⟨_, (ht.2 2 _ rfl).1⟩
              refine wpOp_of rfl rfl (wp_value (v := .int .i64 n) (W' := W) ?_ (Inv.step hok hJ hL (i := 4) (by decide) _ rfl ⟨hFr, _, _, _, _, _, _, _, hr, her⟩ (fun _ _ _ h => h) ⟨n, rfl⟩))
              simp [execOp, Act.eval, ep]
              go_simp
            · refine wpOp_of rfl rfl (wp_value (v := .pointer (some ⟨c, 0, none⟩)) (W' := W) ?_ (Inv.step hok hJ hL (i := 5) (by decide) _ rfl ⟨hFr, _, _, _, _, _, _, _, hr, her⟩ (fun _ _ _ h => h) rfl))
              simp [execOp, Act.eval, s0, go_sem]
            · obtain ⟨hnot, hdep⟩ := ready_of hL rfl hi
              have l1 : L[5]?.getD false = true := hdep ⟨5, .data⟩ (by simp) rfl
              have hs : A.tmps[41]?.getD undef = .pointer (some ⟨c, 0, none⟩) := hJ.fs 5 (by decide) 41 rfl l1
              refine wpOp_of rfl rfl (wp_enter (f := 94) (args := #[.pointer (some ⟨c, 0, none⟩), .int .i64 200]) ?_ ?_)
              · simp [execOp, Act.eval, hs, go_sem]
              · refine (Below_draw _ _ a len cap 200 hFr.cur).mono ?_
                rintro e w4 ⟨n, hn, rfl, hc4, ho4⟩
                exact ⟨_, rfl, Inv.step hok hJ hL (i := 6) (by decide) _ rfl ⟨hFr.call hc4 ho4, _, _, _, _, _, _, _, hr.only ho4 hrc, her⟩ (lenF_keep fun g hg ht => ht.only ho4 (by omega)) ⟨n, rfl⟩⟩
            · obtain ⟨hnot, hdep⟩ := ready_of hL rfl hi
              have l4 : L[4]?.getD false = true := hdep ⟨4, .data⟩ (by simp) rfl
              have l6 : L[6]?.getD false = true := hdep ⟨6, .data⟩ (by simp) rfl
              obtain ⟨K, ek⟩ := hJ.fs 4 (by decide) 40 rfl l4
              obtain ⟨N, en⟩ := hJ.fs 6 (by decide) 42 rfl l6
              refine wpOp_of rfl rfl (wp_value (v := .agg #[.int .i64 K, .int .i64 N, .int .i64 0, .int .i64 0, .int .i64 0, .int .i64 0, .string ⟨#[]⟩]) (W' := W) ?_ (Inv.step hok hJ hL (i := 7) (by decide) _ rfl ⟨hFr, _, _, _, _, _, _, _, hr, her⟩ (fun _ _ _ h => h) ⟨K, N, rfl⟩))
              simp [execOp, Act.eval, ek, en]
              go_simp
            · obtain ⟨hnot, hdep⟩ := ready_of hL rfl hi
              have l7 : L[7]?.getD false = true := hdep ⟨7, .data⟩ (by simp) rfl
              obtain ⟨K, N, hs⟩ := hJ.fs 7 (by decide) 43 rfl l7
              refine wpOp_of rfl rfl (wp_stored (W' := put7 W w.heap.size (.int .i64 K) (.int .i64 N) (.int .i64 0) (.int .i64 0) (.int .i64 0) (.int .i64 0) (.string ⟨#[]⟩)) ?_ (Inv.step hok hJ hL (i := 8) (v := undef) (by decide) none rfl ⟨D6.fr_put7 hFr (Nat.le_refl _) hrc _ _ _ _ _ _ _, _, _, _, _, _, _, _, put7_blk hr _ _ _ _ _ _ _, fun _ => ⟨K, N, rfl⟩⟩ (lenF_keep fun g hg ht => put7_other ht (by omega) _ _ _ _ _ _ _) trivial))
              obtain ⟨c0, c1, c2, c3, c4, c5, c6, f0, f1, f2, f3, f4, f5, f6⟩ := seven_cells hr
              simp [execOp, Act.eval, s4, hs, go_sem, put7, c0, c1, c2, c3, c4, c5, c6, f0, f1, f2, f3, f4, f5, f6]
          · intro L A W hL hJ hr
            have hd := ready_all (by kernel_rfl) hL hr
            have s4 := hJ.ks (4, .pointer (some ⟨w.heap.size, 0, none⟩)) (by simp)
            obtain ⟨hFr, u0, u1, u2, u3, u4, u5, u6, hb, her⟩ := hJ.bs
            obtain ⟨K, N, he⟩ := her (hd 8 (by decide))
            rw [he] at hb
            obtain ⟨p0, p1, p2, p3, p4, p5, p6, _⟩ := seven_cells hb
            have hdf := hJ.df
            go_wp2_with fail
            exact bodyPost_ret (v := valV ⟨K, N, 0, 0, 0, 0, []⟩) (by simp only [results, Tryz.results154]; simp [go_sem, s4, p0, p1, p2, p3, p4, p5, p6, valV]) hdf ⟨⟨K, N, 0, 0, 0, 0, []⟩, rfl, by simp, hFr.cur, hFr.only⟩

def looks9 : List (List UInt8) := [[99, 108, 101, 97, 114], [119, 105, 100, 101], [108, 101, 102, 116], [99, 111, 108, 111, 114], [115, 104, 111, 119], [102, 111, 114, 109], [], [87, 105, 100, 101], [119, 104, 97, 116]]

theorem looks9_at {k : Nat} (h : k < 9) : ∃ t, looks9[k]? = some t ∧ t.length ≤ 10 := by
  have : k = 0 ∨ k = 1 ∨ k = 2 ∨ k = 3 ∨ k = 4 ∨ k = 5 ∨ k = 6 ∨ k = 7 ∨ k = 8 := by omega
  rcases this with rfl | rfl | rfl | rfl | rfl | rfl | rfl | rfl | rfl <;> exact ⟨_, rfl, by decide⟩

/-- A short text that a draw from the bytes answers. -/
def GivenS (n : Nat) (w : World) (e : Ending) (w' : World) : Prop := ∃ t : List UInt8, e = .returned (.string ⟨t.toArray⟩) ∧ t.length ≤ n ∧ Below w.heap.size w w'

/-- A look and a value that a draw from the bytes answers. -/
def GivenLV (w : World) (e : Ending) (w' : World) : Prop := ∃ (l : Int) (x : Va), e = .returned (.tuple #[.int .i64 l, valV x]) ∧ InLook l ∧ x.w.length ≤ 100 ∧ Below w.heap.size w w'

end Go.Proofs.YtliihnkonakacaaGreatDoor.D8

namespace Go.Proofs.YtliihnkonakacaaGreatDoor.D9
open Go.Proofs.YtliihnkonakacaaGreatDoor.P1 Go.Proofs.YtliihnkonakacaaGreatDoor.B1 Go.Proofs.YtliihnkonakacaaGreatDoor.B2 Go.Proofs.YtliihnkonakacaaGreatDoor.T1 Go.Proofs.YtliihnkonakacaaGreatDoor.BT Go.Proofs.YtliihnkonakacaaGreatDoor.P5 Go.Proofs.YtliihnkonakacaaGreatDoor.P6 Go.Proofs.YtliihnkonakacaaGreatDoor.P8 Go.Proofs.YtliihnkonakacaaGreatDoor.P9 Go.Proofs.YtliihnkonakacaaGreatDoor.B5 Go.Proofs.YtliihnkonakacaaGreatDoor.B6 Go.Proofs.YtliihnkonakacaaGreatDoor.B8 Go.Proofs.YtliihnkonakacaaGreatDoor.B9 Go.Proofs.YtliihnkonakacaaGreatDoor.D1 Go.Proofs.YtliihnkonakacaaGreatDoor.D2 Go.Proofs.YtliihnkonakacaaGreatDoor.D5 Go.Proofs.YtliihnkonakacaaGreatDoor.D6 Go.Proofs.YtliihnkonakacaaGreatDoor.D8 Go.Proofs.YtliihnkonakacaaGreatDoor.DB Go.Proofs.YtliihnkonakacaaGreatDoor.W8 Go.Proofs.YtliihnkonakacaaGreatDoor.RC Go.Proofs.YtliihnkonakacaaGreatDoor.RI
open Go.ChangeShapes Go.WideShapes Go.ChangeAt Go.RowKit
set_option linter.unusedVariables false

theorem own_only {w w' : World} {B e size n c : Nat} {v : Value} {xs : List Value} (h : w.ownsRow B e size v n xs) (ho : Only c w w') (hc : c < B) : w'.ownsRow B e size v n xs := by
  have hne : v.ownBlock ≠ some c := fun e0 => by
    have := (World.ownsRow.lt h c e0).1
    omega
  exact h.kept (row := some c) ⟨ho.os, ho.tape, ho.output, ho.size, fun k hk hn => ho.block k (fun e0 => hn (by rw [e0])) hk⟩ (Or.inr hne)

theorem news_of {w : World} {b : Nat} {vs : List Value} (h : LBlk w b vs) : ∀ j u, vs[j]? = some u → w.cell? ((⟨b, 0, none⟩ : Addr).add j) = some u := fun j u hu => by
  rw [add_lit, Nat.zero_add]
  exact (h.2 j u hu).1

theorem infoN : (Tryz.prog.info? 56).map (fun i => (i.zero, i.size, i.bytes)) = some (some (.agg #[.int .i64 0, .int .i64 0, .int .i64 0, .int .i64 0, .int .i64 0, .int .i64 0, .int .i64 0, .string ⟨#[]⟩, .bool false]), 9, 80) := by kernel_rfl

/-- A note as a draw makes it. -/
def NoD (x : No) : Prop := -1 ≤ x.l ∧ x.l ≤ 6 ∧ x.v.w.length ≤ 100

/-- Some notes of the call's own. -/
def DrawnNs (m : Nat) (c : Nat) (a : Option Addr) (len cap : Nat) (w : World) (e : Ending) (w' : World) : Prop :=
  ∃ v ns, e = .returned v ∧ Own 56 9 w' v w.heap.size (noRs ns) ∧ (∀ x ∈ ns, NoD x) ∧ ns.length ≤ m ∧ Cur w' c a len cap ∧ Only c w w'

theorem own_form {e : TypeId} {w : World} {v : Value} {B m : Nat} {rs : List (List Value)} (h : Own e m w v B rs) : ∃ a c, v = .slice a rs.length c := by
  rcases h.row with ⟨rfl, rfl⟩ | ⟨g, cap, rfl, _⟩
  · exact ⟨_, _, rfl⟩
  · exact ⟨_, _, rfl⟩

theorem ownN {w : World} {v : Value} {B d : Nat} {ns : List No} (h : Own 56 9 w v B (noRs ns)) (hd : ns.length = d) : w.ownsRow B 56 9 v d (noRs ns).flatten := by
  have := h.1
  rwa [noRs_len, hd] at this

theorem own_more9 {w : World} {v : Value} {B d : Nat} {ns : List No} {x : No} (hd : ns.length = d) (h : w.ownsRow B 56 9 v (d + 1) ((noRs ns).flatten ++ noL x)) : Own 56 9 w v B (noRs (ns ++ [x])) := by
  have e : noRs (ns ++ [x]) = noRs ns ++ [noL x] := by unfold noRs; rw [List.map_append]; rfl
  rw [e]
  exact Own.more (noRs_nine ns) rfl (by rw [noRs_len, hd]; exact h)

theorem own_none (w : World) : Own 56 9 (w.alloc (.cells #[] 56)) (.slice (some ⟨w.heap.size, 0, none⟩) 0 0) w.heap.size (noRs []) :=
  ⟨World.ownsRow_lit w #[] 0 (Nat.le_refl _) (by decide) rfl, fun r hr => by cases hr⟩

set_option maxRecDepth 20000 in
set_option maxHeartbeats 4000000 in
theorem l9Draw_draw (w : World) (c : Nat) (a : Option Addr) (len cap : Nat) (K : Nat) (hK0 : 1 ≤ K) (hK1 : K ≤ 10) (h : Cur w c a len cap) :
    Calls Tryz.prog 116 #[.pointer (some ⟨c, 0, none⟩), .int .i64 (K : Int)] w (DrawnNs K c a len cap w) := by
  obtain ⟨i0, hi, hz0, hz1, hz2⟩ := info_parts infoN
  have hF1 := (Fr.refl h).alloc (.cells #[] 56)
  have hcw := h.lt
  have ho1 := own_none w
  clear h
  go_enter Tryz.func116, Tryz.ntmps116
  go_wp2_with fail
  refine (Below_draw _ c a len cap (K : Int) hF1.cur).mono ?_
  rintro e w2 ⟨x, ⟨hx0, hx1, _⟩, rfl, hc2, hon2⟩
  have hx1' := hx1 (by omega)
  obtain ⟨N, rfl⟩ : ∃ N : Nat, x = (N : Int) := ⟨x.toNat, by omega⟩
  have hF2 := hF1.call hc2 hon2
  have ho2 : Own 56 9 w2 (.slice (some ⟨w.heap.size, 0, none⟩) 0 0) w.heap.size (noRs []) := ⟨own_only ho1.1 hon2 hcw, ho1.2⟩
  have hN : N < K := by omega
  clear hF1 hc2 hon2 ho1 hx0 hx1 hx1'
  go_wp2_with fail
  go_loopg [5, 6] N (fun kx s5 s6 wr => ∃ (k : Nat) (ns : List No), s6 = .int .i64 (k : Int) ∧ k ≤ kx ∧ ns.length + k ≤ K ∧ Own 56 9 wr s5 w.heap.size (noRs ns) ∧ (∀ x ∈ ns, NoD x) ∧ Fr c a len cap w wr)
  case atStart => exact ⟨N, [], rfl, Nat.le_refl _, by simp; omega, ho2, (fun x hx => by cases hx), hF2⟩
  case round =>
    obtain ⟨k, ns, rfl, hkk, hlen, hown, hnd, hF⟩ := hrel
    clear ho2 hF2
    obtain ⟨a5, c5, rfl⟩ := own_form hown
    obtain ⟨d, hd⟩ : ∃ d, ns.length = d := ⟨_, rfl⟩
    have hownd := ownN hown hd
    rw [noRs_len, hd] at hownd ⊢
    rw [hd] at hlen
    clear hown
    by_cases hk0 : k = 0
    · subst hk0
      go_wp2_with fail
      go_ret
      exact ⟨_, ns, rfl, ⟨by rw [noRs_len, hd]; exact hownd, noRs_nine ns⟩, hnd, by omega, hF.cur, hF.only⟩
    · have hk1 : (0 : Int) < (k : Int) := by omega
      go_wp2_with fail
      refine (Below_draw _ c a len cap 6 hF.cur).mono ?_
      rintro e w3 ⟨l, ⟨hl0, hl1, _⟩, rfl, hc3, hon3⟩
      have hl1' := hl1 (by omega)
      have hF3 := hF.call hc3 hon3
      have hown3 := own_only hownd hon3 hcw
      clear hF hc3 hon3 hownd hl1
      go_wp2_with fail
      refine (l8DrawValue_draw _ c a len cap l hF3.cur).mono ?_
      rintro e w4 ⟨y, rfl, hy, hc4, hon4⟩
      have hF4 := hF3.call hc4 hon4
      have hown4 := own_only hown3 hon4 hcw
      clear hF3 hc4 hon4 hown3
      go_wp2_with fail
      refine (Once_draw _ c a len cap 8 hF4.cur).mono ?_
      rintro e w5 ⟨q, rfl, hc5, hon5⟩
      have hF5 := hF4.call hc5 hon5
      have hown5 := own_only hown4 hon5 hcw
      have hF6 := hF5.alloc (.cells #[.int .i64 l, .int .i64 y.k, .int .i64 y.n, .int .i64 y.r, .int .i64 y.g, .int .i64 y.b, .int .i64 y.c, .string ⟨y.w.toArray⟩, .bool q] 56)
      have hown6 := World.ownsRow.alloc hown5 (.cells #[.int .i64 l, .int .i64 y.k, .int .i64 y.n, .int .i64 y.r, .int .i64 y.g, .int .i64 y.b, .int .i64 y.c, .string ⟨y.w.toArray⟩, .bool q] 56)
      have hn6 := news_of (LBlk.new w5 (noL ⟨l, y, q⟩) 56)
      have hdn : NoD ⟨l, y, q⟩ := ⟨by show -1 ≤ l; omega, by show l ≤ 6; omega, hy⟩
      have hmx : d + 1 ≤ maxLen := by unfold maxLen; omega
      have hsz : w.heap.size ≤ (w5.alloc (.cells #[.int .i64 l, .int .i64 y.k, .int .i64 y.n, .int .i64 y.r, .int .i64 y.g, .int .i64 y.b, .int .i64 y.c, .string ⟨y.w.toArray⟩, .bool q] 56)).heap.size := by have := hF5.only.size; simp; omega
      clear hF4 hc5 hon5 hown4 hF5 hown5
      unfold valV
      go_wp2_with (at_builtin; refine wpList_append_own _ rfl _ _ 49 rfl w.heap.size 56 i0 _ 9 80 Tryz.underlying49 hi hz0 hz1 hz2 rfl (by decide) _ d (noRs ns).flatten rfl hown6 ⟨w5.heap.size, 0, none⟩ 1 1 (noL ⟨l, y, q⟩) rfl rfl hn6 (fun u hu => List.all_eq_true.1 (noL_one ⟨l, y, q⟩) u hu) hmx (by omega) hsz ?_; intro v7 w7 hown7 hgrow7 _)
      go_roundg (k - 1)
      case measure => omega
      case rel => exact ⟨k - 1, ns ++ [⟨l, y, q⟩], by go_num, by omega, by rw [List.length_append]; simp; omega, own_more9 hd hown7, (fun x hx => by
        rcases List.mem_append.1 hx with hx | hx
        · exact hnd x hx
        · obtain rfl : x = ⟨l, y, q⟩ := by simpa using hx
          exact hdn), fr_grown hF6 hcw hgrow7 (fun k' hk' => (World.ownsRow.lt hown6 k' hk').1)⟩

theorem own_blk {e : TypeId} {m : Nat} {w : World} {a : Option Addr} {d cap B : Nat} {rs : List (List Value)} (h : Own e m w (.slice a d cap) B rs) (hne : rs ≠ []) : ∃ g, a = some ⟨g, 0, none⟩ ∧ B ≤ g ∧ LBlk w g rs.flatten ∧ rs.length ≤ cap ∧ cap ≤ 9223372036854775807 := by
  have h' := h.1
  rcases h'.2 with ⟨hv, hn⟩ | ⟨g, cp, cur, hv, hb, hg, hnc, hm, _⟩
  · exact absurd (List.length_eq_zero_iff.1 hn) hne
  · obtain ⟨rfl, rfl, rfl⟩ : a = some ⟨g, 0, none⟩ ∧ d = rs.length ∧ cap = cp := by simpa using hv
    refine ⟨g, rfl, hb, ⟨(Array.getElem?_eq_some_iff.1 hg).1, fun i v hv => ⟨?_, Joins.unfrozen_of_block hg i⟩⟩, hnc, by unfold maxLen at hm; omega⟩
    rw [World.ownsRow.cellAt h' i (by rw [← flat_len h.2]; exact (List.getElem?_eq_some_iff.1 hv).1)]
    exact hv

theorem noSlc_blk {w : World} {g cap : Nat} {ns : List No} (h : LBlk w g (noRs ns).flatten) (h1 : ns.length ≤ cap) (h2 : cap ≤ 9223372036854775807) : NoSlc w (.slice (some ⟨g, 0, none⟩) ns.length cap) ns :=
  ⟨some ⟨g, 0, none⟩, cap, by rw [noRs_len], by rw [noRs_len]; exact h1, h2, fun _ => ⟨g, 0, rfl, at_of_blk h (noRs_nine ns)⟩⟩

theorem noSlc_own {w : World} {v : Value} {B : Nat} {ns : List No} (h : Own 56 9 w v B (noRs ns)) : NoSlc w v ns := h.val.slc

/-- Some notes, wherever they lie. -/
def DrawnNo (m : Nat) (c : Nat) (a : Option Addr) (len cap : Nat) (w : World) (e : Ending) (w' : World) : Prop :=
  ∃ v ns, e = .returned v ∧ NoSlc w' v ns ∧ (∀ x ∈ ns, NoD x) ∧ ns.length ≤ m ∧ (∀ g, v.ownBlock = some g → w.heap.size ≤ g) ∧ Cur w' c a len cap ∧ Only c w w'

theorem slc_only {w w' : World} {v : Value} {ns : List No} {c : Nat} (h : NoSlc w v ns) (ho : Only c w w') (hb : ∀ g, v.ownBlock = some g → g ≠ c) : NoSlc w' v ns := by
  obtain ⟨a, cap, rfl, h1, h2, h3⟩ := h
  refine ⟨a, cap, rfl, h1, h2, fun hne => ?_⟩
  obtain ⟨g, off, rfl, hat⟩ := h3 hne
  have hg : g ≠ c := hb g rfl
  exact ⟨g, off, rfl, fun i r hr j u hu => (ho.cell (p := ⟨g, off + i * 9 + j, none⟩) hg hat.lt).trans (hat.cells i r hr j u hu), Nat.lt_of_lt_of_le hat.lt ho.size⟩

/-- The cells of a value. -/
def vaC (x : Va) : List Value := [.int .i64 x.k, .int .i64 x.n, .int .i64 x.r, .int .i64 x.g, .int .i64 x.b, .int .i64 x.c, .string ⟨x.w.toArray⟩]

theorem vaC_wide : wideT Tryz.prog 54 7 = true := by kernel_rfl

theorem only_far {c g : Nat} {w0 w w' : World} (h : Only c w0 w) (ho : Only g w w') (hg : w0.heap.size ≤ g) : Only c w0 w' :=
  ⟨ho.os.trans h.os, ho.tape.trans h.tape, ho.output.trans h.output, Nat.le_trans h.size ho.size, fun k hk hs => (ho.block k (by omega) (Nat.lt_of_lt_of_le hs h.size)).trans (h.block k hk hs)⟩

theorem fr_far {c : Nat} {a : Option Addr} {len cap g : Nat} {w w' w2 : World} (h : Fr c a len cap w w') (ho : Only g w' w2) (hg : w.heap.size ≤ g) (hc : c < w.heap.size) : Fr c a len cap w w2 := by
  have hcur := h.cur
  have hgc : c ≠ g := by omega
  have hb : w2.heap[c]? = w'.heap[c]? := ho.block c hgc hcur.lt
  have hon := only_far h.only ho hg
  obtain ⟨hl, c0, ⟨i, hi, c1⟩, ⟨hh, c2⟩, f1, f2, hbt⟩ := hcur
  have cc : ∀ o, w2.cell? ⟨c, o, none⟩ = w'.cell? ⟨c, o, none⟩ := fun o => ho.cell (p := ⟨c, o, none⟩) hgc hl
  have ff : ∀ o, w2.frozen? ⟨c, o, none⟩ = w'.frozen? ⟨c, o, none⟩ := fun o => ho.frozen (p := ⟨c, o, none⟩) hgc hl
  exact ⟨⟨Nat.lt_of_lt_of_le hl ho.size, by rw [cc]; exact c0, ⟨i, hi, by rw [cc]; exact c1⟩, ⟨hh, by rw [cc]; exact c2⟩, by rw [ff]; exact f1, by rw [ff]; exact f2, h.bytes.only hon⟩, hon, h.bytes⟩

set_option maxRecDepth 20000 in
set_option maxHeartbeats 8000000 in
theorem l9DrawAny_draw (w : World) (c : Nat) (a : Option Addr) (len cap : Nat) (h : Cur w c a len cap) :
    Calls Tryz.prog 72 #[.pointer (some ⟨c, 0, none⟩)] w (DrawnNo 13 c a len cap w) := by
  obtain ⟨i0, hi, hz0, hz1, hz2⟩ := info_parts infoN
  have hcw := h.lt
  have hF0 := Fr.refl h
  clear h
  go_enter Tryz.func72, Tryz.ntmps72
  go_wp2_with fail
  refine (l9Draw_draw _ c a len cap 5 (by decide) (by decide) hF0.cur).mono ?_
  rintro e w1 ⟨v, ns, rfl, hown, hnd, hlen, hc1, hon1⟩
  have hF1 := hF0.call hc1 hon1
  clear hF0 hc1 hon1
  obtain ⟨a1, c1, rfl⟩ := own_form hown
  rw [noRs_len] at hown ⊢
  by_cases hne : ns = []
  · subst hne
    go_wp2_with fail
    go_ret
    exact ⟨_, [], rfl, noSlc_own hown, hnd, by decide, fun g hg => (World.ownsRow.lt hown.1 g hg).1, hF1.cur, hF1.only⟩
  · have hpos : (0 : Int) < (ns.length : Int) := by
      have := List.length_pos_iff.2 hne
      omega
    obtain ⟨d, hd⟩ : ∃ d, ns.length = d := ⟨_, rfl⟩
    rw [hd] at hpos ⊢
    go_wp2_with fail
    refine (Once_draw _ c a len cap 8 hF1.cur).mono ?_
    rintro e w2 ⟨q, rfl, hc2, hon2⟩
    have hF2 := hF1.call hc2 hon2
    have hown2 : Own 56 9 w2 (.slice a1 d c1) w.heap.size (noRs ns) := by
      rw [← hd]
      exact ⟨own_only hown.1 hon2 hcw, hown.2⟩
    clear hF1 hc2 hon2 hown
    cases q
    · go_wp2_with fail
      go_ret
      exact ⟨_, ns, rfl, noSlc_own hown2, hnd, by omega, fun g hg => (World.ownsRow.lt hown2.1 g hg).1, hF2.cur, hF2.only⟩
    · go_wp2_with fail
      refine (Below_draw _ c a len cap 3 hF2.cur).mono ?_
      rintro e w3 ⟨z, hz, rfl, hc3, hon3⟩
      obtain ⟨Z, rfl, hZ⟩ := below_nat (m := 3) hz (by omega)
      have hF3 := hF2.call hc3 hon3
      have hown3 : Own 56 9 w3 (.slice a1 d c1) w.heap.size (noRs ns) := ⟨own_only hown2.1 hon3 hcw, hown2.2⟩
      clear hF2 hc3 hon3 hown2 hz
      rcases (show Z = 0 ∨ Z = 1 ∨ Z = 2 by omega) with rfl | rfl | rfl
      · obtain ⟨g, rfl, hBg, hL3, hroom, htop⟩ := own_blk hown3 (by intro e0; unfold noRs at e0; exact hne (by simpa using e0))
        rw [noRs_len, hd] at hroom
        obtain ⟨x, rest, rfl⟩ : ∃ x rest, ns = x :: rest := List.exists_cons_of_ne_nil hne
        have hgc : g ≠ c := by omega
        have hdc : (d : Int) ≤ (c1 : Int) := by omega
        clear hown3 hne
        go_wp2_with fail
        refine (l8Draw_draw _ c a len cap hF3.cur).mono ?_
        rintro e w4 ⟨l, hl, rfl, hc4, hon4⟩
        have hF4 := hF3.call hc4 hon4
        have hL4 := hL3.only hon4 hgc
        obtain ⟨k0, f0⟩ := hL4.2 0 _ rfl
        have hL5 : LBlk (w4.setCell ⟨g, 0, none⟩ (.int .i64 l)) g (noRs (⟨l, x.v, x.s⟩ :: rest)).flatten := hL4.set 0 (.int .i64 l) (by simp [noRs, noL])
        have hF5 := hF4.set (b := g) hBg hgc 0 (.int .i64 l)
        have hx := hnd x (by simp)
        clear hF3 hc4 hon4 hL3
        go_wp2_with fail
        go_ret
        refine ⟨_, ⟨l, x.v, x.s⟩ :: rest, rfl, ?_, fun y hy => ?_, by rw [List.length_cons] at hlen ⊢; omega, fun g' hg' => by simp [Value.ownBlock] at hg'; omega, hF5.cur, hF5.only⟩
        · have := noSlc_blk (cap := c1) hL5 (by rw [List.length_cons] at hd ⊢; omega) htop
          rw [show (⟨l, x.v, x.s⟩ :: rest : List No).length = d by rw [List.length_cons] at hd ⊢; exact hd] at this
          exact this
        · rcases List.mem_cons.1 hy with rfl | hy
          · exact ⟨hl.1, hl.2, hx.2.2⟩
          · exact hnd y (by simp [hy])
      · obtain ⟨g, rfl, hBg, hL3, hroom, htop⟩ := own_blk hown3 (by intro e0; unfold noRs at e0; exact hne (by simpa using e0))
        rw [noRs_len, hd] at hroom
        obtain ⟨x, rest, rfl⟩ : ∃ x rest, ns = x :: rest := List.exists_cons_of_ne_nil hne
        have hgc : g ≠ c := by omega
        have hdc : (d : Int) ≤ (c1 : Int) := by omega
        clear hown3 hne
        go_wp2_with fail
        refine (l6DrawAny_draw _ c a len cap hF3.cur).mono ?_
        rintro e w4 ⟨y, rfl, hy, hc4, hon4⟩
        have hF4 := hF3.call hc4 hon4
        have hL4 := hL3.only hon4 hgc
        obtain ⟨w5, hst, hL5, hon5, _⟩ := store_part (P := Tryz.prog) (ty := 54) (o := 1) (vs := vaC y) hL4 vaC_wide (by simp [noRs, noL, vaC]) rfl
        have hL5' : LBlk w5 g (noRs (⟨x.l, y, x.s⟩ :: rest)).flatten := hL5
        have HST := Lib.hid (show (storeVar 54 ⟨g, 1, none⟩ (valV y)).run Tryz.prog w4 = .ok () w5 from hst)
        have hF5 := fr_far hF4 hon5 hBg hcw
        have hx := hnd x (by simp)
        clear hF3 hc4 hon4 hL3 hst hL5 hF4 hL4
        go_wp2_with ((with_reducible refine wp_store_at HST.out ?_ ?_); exact And.intro rfl (And.intro rfl (And.intro rfl rfl)))
        go_ret
        refine ⟨_, ⟨x.l, y, x.s⟩ :: rest, rfl, ?_, fun u hu => ?_, by rw [List.length_cons] at hlen ⊢; omega, fun g' hg' => by simp [Value.ownBlock] at hg'; omega, hF5.cur, hF5.only⟩
        · have := noSlc_blk (cap := c1) hL5' (by rw [List.length_cons] at hd ⊢; omega) htop
          rw [show (⟨x.l, y, x.s⟩ :: rest : List No).length = d by rw [List.length_cons] at hd ⊢; exact hd] at this
          exact this
        · rcases List.mem_cons.1 hu with rfl | hu
          · exact ⟨hx.1, hx.2.1, hy⟩
          · exact hnd u (by simp [hu])
      · have hd13 : d ≤ 13 := by omega
        have HA := Lib.hid (fun w' => AtFirst_spec 5 w')
        have hdn : NoD ⟨5, atFirst 5, false⟩ := ⟨by decide, by decide, by decide⟩
        go_wp2_with fail
        go_loopg [3] (13 - d) (fun kx s3 wr => ∃ (ms : List No), kx + ms.length = 13 ∧ Own 56 9 wr s3 w.heap.size (noRs ms) ∧ (∀ x ∈ ms, NoD x) ∧ Fr c a len cap w wr)
        case atStart => exact ⟨ns, by omega, hown3, hnd, hF3⟩
        case round =>
          obtain ⟨ms, hk, hown, hmd, hF⟩ := hrel
          clear hown3 hF3 hnd hd hlen hne hpos
          obtain ⟨a3, c3, rfl⟩ := own_form hown
          rw [noRs_len] at hown ⊢
          obtain ⟨m, hm⟩ : ∃ m, ms.length = m := ⟨_, rfl⟩
          have hownd := ownN hown hm
          rw [hm] at hownd hk ⊢
          clear hown
          go_wp2_with fail
          refine (Below_draw _ c a len cap 2 hF.cur).mono ?_
          rintro e w4 ⟨z, hz, rfl, hc4, hon4⟩
          obtain ⟨Z, rfl, hZ⟩ := below_nat (m := 2) hz (by omega)
          have hF4 := hF.call hc4 hon4
          have hown4 := own_only hownd hon4 hcw
          clear hF hc4 hon4 hownd hz
          have hmm : (m : Int) ≤ 13 := by omega
          obtain ⟨T, eT⟩ : ∃ T : Int, 12 + (Z : Int) = T := ⟨_, rfl⟩
          have hw : IntKind.i64.wrap (12 + (Z : Int)) = T := by rw [IntKind.wrap_i64]; omega
          by_cases hlt : (m : Int) < T
          · obtain ⟨y, ey⟩ : ∃ y, atFirst 5 = y := ⟨_, rfl⟩
            rw [ey] at HA hdn
            go_wp2_with fail
            refine (HA.out _).mono ?_
            rintro e w5 ⟨rfl, g5⟩
            have hF5 := D5.fr_below hF4 g5
            have hown5 := own_below hown4 g5
            have hF6 := hF5.alloc (.cells #[.int .i64 5, .int .i64 y.k, .int .i64 y.n, .int .i64 y.r, .int .i64 y.g, .int .i64 y.b, .int .i64 y.c, .string ⟨y.w.toArray⟩, .bool false] 56)
            have hown6 := World.ownsRow.alloc hown5 (.cells #[.int .i64 5, .int .i64 y.k, .int .i64 y.n, .int .i64 y.r, .int .i64 y.g, .int .i64 y.b, .int .i64 y.c, .string ⟨y.w.toArray⟩, .bool false] 56)
            have hn6 := news_of (LBlk.new w5 (noL ⟨5, y, false⟩) 56)
            have hmx : m + 1 ≤ maxLen := by unfold maxLen; omega
            have hsz : w.heap.size ≤ (w5.alloc (.cells #[.int .i64 5, .int .i64 y.k, .int .i64 y.n, .int .i64 y.r, .int .i64 y.g, .int .i64 y.b, .int .i64 y.c, .string ⟨y.w.toArray⟩, .bool false] 56)).heap.size := by have := hF5.only.size; simp; omega
            clear hF4 hF5 hown4 hown5 g5
            unfold valV
            go_wp2_with (at_builtin; refine wpList_append_own _ rfl _ _ 49 rfl w.heap.size 56 i0 _ 9 80 Tryz.underlying49 hi hz0 hz1 hz2 rfl (by decide) _ m (noRs ms).flatten rfl hown6 ⟨w5.heap.size, 0, none⟩ 1 1 (noL ⟨5, y, false⟩) rfl rfl hn6 (fun u hu => List.all_eq_true.1 (noL_one ⟨5, y, false⟩) u hu) hmx (by omega) hsz ?_; intro v7 w7 hown7 hgrow7 _)
            go_roundg (13 - (m + 1))
            case measure => omega
            case rel => exact ⟨ms ++ [⟨5, y, false⟩], by rw [List.length_append, hm]; simp; omega, own_more9 hm hown7, (fun x hx => by
              rcases List.mem_append.1 hx with hx | hx
              · exact hmd x hx
              · obtain rfl : x = ⟨5, y, false⟩ := by simpa using hx
                exact hdn), fr_grown hF6 hcw hgrow7 (fun k' hk' => (World.ownsRow.lt hown6 k' hk').1)⟩
          · go_wp2_with fail
            go_ret
            exact ⟨_, ms, rfl, noSlc_own (B := w.heap.size) ⟨by rw [noRs_len, hm]; exact hown4, noRs_nine ms⟩, hmd, by omega, fun g hg => (World.ownsRow.lt hown4 g hg).1, hF4.cur, hF4.only⟩

/-- Some notes and a look. -/
def GivenNs (w : World) (e : Ending) (w' : World) : Prop := ∃ v ns l, e = .returned (.tuple #[v, .int .i64 l]) ∧ NoSlc w' v ns ∧ (∀ x ∈ ns, NoD x) ∧ ns.length ≤ 13 ∧ Below w.heap.size w w'

def nfD (i : Nat) : Option Nat := match i with
  | 0 => some 19
  | 1 => some 20
  | 2 => some 21
  | 3 => some 22
  | 4 => some 23
  | 5 => some 24
  | 6 => some 25
  | 7 => some 26
  | 8 => some 2
  | 9 => some 3
  | _ => none

def nfF (sl : Value) (c g off d : Nat) (i : Nat) (v : Value) (W : World) : Prop := match i with
  | 0 => v = sl
  | 1 => v = sl
  | 2 => v = .pointer (some ⟨c, 0, none⟩)
  | 3 => v = .int .i64 (d : Int)
  | 4 => ∃ Z : Nat, Z < d ∧ v = .int .i64 (Z : Int)
  | 5 => ∃ Z : Nat, Z < d ∧ v = .pointer (some ⟨g, off + Z * 9, none⟩)
  | 6 => ∃ Z : Nat, Z < d ∧ v = .pointer (some ⟨g, off + Z * 9, none⟩)
  | 7 => ∃ l : Int, v = .int .i64 l
  | 8 => v = sl
  | 9 => ∃ l : Int, v = .int .i64 l
  | _ => True

theorem nfF_keep {sl : Value} {c g off d : Nat} {w w' : World} (j : Nat) (v : Value) (hj : j < 10) (h : nfF sl c g off d j v w) : nfF sl c g off d j v w' := h

end Go.Proofs.YtliihnkonakacaaGreatDoor.D9
