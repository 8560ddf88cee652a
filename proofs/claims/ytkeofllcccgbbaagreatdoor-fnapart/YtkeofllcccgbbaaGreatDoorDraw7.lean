/- Draws of chapter 7: l7Draw, DrawCanMix, DrawApart. -/
import Derived.Test.YtkeofllcccgbbaaGreatDoorDraw6
import Derived.Test.YtkeofllcccgbbaaGreatDoorBase6b
namespace Go.Proofs.YtkeofllcccgbbaaGreatDoor.D7
open Go.Proofs.YtkeofllcccgbbaaGreatDoor.P1 Go.Proofs.YtkeofllcccgbbaaGreatDoor.B1 Go.Proofs.YtkeofllcccgbbaaGreatDoor.B2 Go.Proofs.YtkeofllcccgbbaaGreatDoor.T1 Go.Proofs.YtkeofllcccgbbaaGreatDoor.BT Go.Proofs.YtkeofllcccgbbaaGreatDoor.P5 Go.Proofs.YtkeofllcccgbbaaGreatDoor.P6 Go.Proofs.YtkeofllcccgbbaaGreatDoor.B5 Go.Proofs.YtkeofllcccgbbaaGreatDoor.B6 Go.Proofs.YtkeofllcccgbbaaGreatDoor.S7 Go.Proofs.YtkeofllcccgbbaaGreatDoor.D1 Go.Proofs.YtkeofllcccgbbaaGreatDoor.D2 Go.Proofs.YtkeofllcccgbbaaGreatDoor.DB Go.Proofs.YtkeofllcccgbbaaGreatDoor.D5 Go.Proofs.YtkeofllcccgbbaaGreatDoor.D6
open Go.ChangeShapes Go.WideShapes Go.ChangeAt Go.RowKit
set_option linter.unusedVariables false

/-- Two values drawn. -/
def DrawnVV (c : Nat) (a : Option Addr) (len cap : Nat) (w : World) (e : Ending) (w' : World) : Prop :=
  ∃ x y : Va, e = .returned (.tuple #[valV x, valV y]) ∧ x.w.length ≤ 100 ∧ y.w.length ≤ 100 ∧ Cur w' c a len cap ∧ Only c w w'

/-- Four local blocks: the two results', the two values'. -/
structure Four (c : Nat) (a : Option Addr) (len cap : Nat) (w w1 : World) (bA bB : Nat) (rs qs xs ys : List Value) : Prop where
  fr : Fr c a len cap w w1
  r : LBlk w1 w.heap.size rs
  q : LBlk w1 (w.heap.size + 1) qs
  x : LBlk w1 bA xs
  y : LBlk w1 bB ys

theorem four_call {c : Nat} {a : Option Addr} {len cap : Nat} {w w1 w2 : World} {bA bB : Nat} {rs qs xs ys : List Value} (h : Four c a len cap w w1 bA bB rs qs xs ys) (hc : Cur w2 c a len cap) (ho : Only c w1 w2)
    (h0 : w.heap.size ≠ c) (h1 : w.heap.size + 1 ≠ c) (h2 : bA ≠ c) (h3 : bB ≠ c) : Four c a len cap w w2 bA bB rs qs xs ys :=
  ⟨h.fr.call hc ho, h.r.only ho h0, h.q.only ho h1, h.x.only ho h2, h.y.only ho h3⟩

set_option maxRecDepth 20000 in
set_option maxHeartbeats 8000000 in
theorem l7Draw_draw (w : World) (c : Nat) (a : Option Addr) (len cap : Nat) (h : Cur w c a len cap) :
    Calls Tryz.prog 22 #[.pointer (some ⟨c, 0, none⟩)] w (DrawnVV c a len cap w) := by
  have hr0 : w.heap.size ≠ c := Nat.ne_of_gt h.lt
  have hr1 : w.heap.size + 1 ≠ c := by have := h.lt; omega
  have hF0 := ((Fr.refl h).alloc (.cells #[.int .i64 0, .int .i64 0, .int .i64 0, .int .i64 0, .int .i64 0, .int .i64 0, .string ⟨#[]⟩] 25)).alloc (.cells #[.int .i64 0, .int .i64 0, .int .i64 0, .int .i64 0, .int .i64 0, .int .i64 0, .string ⟨#[]⟩] 25)
  have hR0 := (LBlk.new w [.int .i64 0, .int .i64 0, .int .i64 0, .int .i64 0, .int .i64 0, .int .i64 0, .string ⟨#[]⟩] 25).alloc (.cells #[.int .i64 0, .int .i64 0, .int .i64 0, .int .i64 0, .int .i64 0, .int .i64 0, .string ⟨#[]⟩] 25)
  have hQ0 : LBlk ((w.alloc (.cells #[.int .i64 0, .int .i64 0, .int .i64 0, .int .i64 0, .int .i64 0, .int .i64 0, .string ⟨#[]⟩] 25)).alloc (.cells #[.int .i64 0, .int .i64 0, .int .i64 0, .int .i64 0, .int .i64 0, .int .i64 0, .string ⟨#[]⟩] 25)) (w.heap.size + 1) [.int .i64 0, .int .i64 0, .int .i64 0, .int .i64 0, .int .i64 0, .int .i64 0, .string ⟨#[]⟩] := by
    have := LBlk.new (w.alloc (.cells #[.int .i64 0, .int .i64 0, .int .i64 0, .int .i64 0, .int .i64 0, .int .i64 0, .string ⟨#[]⟩] 25)) [.int .i64 0, .int .i64 0, .int .i64 0, .int .i64 0, .int .i64 0, .int .i64 0, .string ⟨#[]⟩] 25
    rwa [World.size_alloc] at this
  clear h
  go_enter Tryz.func22, Tryz.ntmps22
  go_wp2_with fail
  generalize (w.alloc (.cells #[.int .i64 0, .int .i64 0, .int .i64 0, .int .i64 0, .int .i64 0, .int .i64 0, .string ⟨#[]⟩] 25)).alloc (.cells #[.int .i64 0, .int .i64 0, .int .i64 0, .int .i64 0, .int .i64 0, .int .i64 0, .string ⟨#[]⟩] 25) = W0 at *
  refine (l6DrawAny_draw _ c a len cap hF0.cur).mono ?_
  rintro e w1 ⟨⟨xk, xn, xr, xg, xb, xc, xt⟩, rfl, hxt, hc1, ho1⟩
  have hF1 := (hF0.call hc1 ho1).alloc (.cells #[.int .i64 xk, .int .i64 xn, .int .i64 xr, .int .i64 xg, .int .i64 xb, .int .i64 xc, .string ⟨xt.toArray⟩] 25)
  have hR1 := (hR0.only ho1 hr0).alloc (.cells #[.int .i64 xk, .int .i64 xn, .int .i64 xr, .int .i64 xg, .int .i64 xb, .int .i64 xc, .string ⟨xt.toArray⟩] 25)
  have hQ1 := (hQ0.only ho1 hr1).alloc (.cells #[.int .i64 xk, .int .i64 xn, .int .i64 xr, .int .i64 xg, .int .i64 xb, .int .i64 xc, .string ⟨xt.toArray⟩] 25)
  have hA1 : LBlk (w1.alloc (.cells #[.int .i64 xk, .int .i64 xn, .int .i64 xr, .int .i64 xg, .int .i64 xb, .int .i64 xc, .string ⟨xt.toArray⟩] 25)) w1.heap.size [.int .i64 xk, .int .i64 xn, .int .i64 xr, .int .i64 xg, .int .i64 xb, .int .i64 xc, .string ⟨xt.toArray⟩] := LBlk.new w1 _ _
  have hac : w1.heap.size ≠ c := Nat.ne_of_gt hc1.lt
  have har : w.heap.size ≠ w1.heap.size := Nat.ne_of_lt (hR0.only ho1 hr0).1
  have haq : w.heap.size + 1 ≠ w1.heap.size := Nat.ne_of_lt (hQ0.only ho1 hr1).1
  have hle1 : w.heap.size ≤ w1.heap.size := Nat.le_of_lt (hR0.only ho1 hr0).1
  have HX := Lib.hid (show (⟨xk, xn, xr, xg, xb, xc, xt⟩ : Va).w.length ≤ 100 from hxt)
  clear hF0 hR0 hQ0 hc1 ho1 hxt
  unfold valV
  go_wp2_with fail
  generalize w1.alloc (.cells #[.int .i64 xk, .int .i64 xn, .int .i64 xr, .int .i64 xg, .int .i64 xb, .int .i64 xc, .string ⟨xt.toArray⟩] 25) = W1 at *
  generalize w1.heap.size = bA at *
  refine (l6DrawAny_draw _ c a len cap hF1.cur).mono ?_
  rintro e w2 ⟨⟨vk, vn, vr, vg, vb, vc, vt⟩, rfl, hvt, hc2, ho2⟩
  have H2 : Four c a len cap w (w2.alloc (.cells #[.int .i64 vk, .int .i64 vn, .int .i64 vr, .int .i64 vg, .int .i64 vb, .int .i64 vc, .string ⟨vt.toArray⟩] 25)) bA w2.heap.size [.int .i64 0, .int .i64 0, .int .i64 0, .int .i64 0, .int .i64 0, .int .i64 0, .string ⟨#[]⟩] [.int .i64 0, .int .i64 0, .int .i64 0, .int .i64 0, .int .i64 0, .int .i64 0, .string ⟨#[]⟩] [.int .i64 xk, .int .i64 xn, .int .i64 xr, .int .i64 xg, .int .i64 xb, .int .i64 xc, .string ⟨xt.toArray⟩] [.int .i64 vk, .int .i64 vn, .int .i64 vr, .int .i64 vg, .int .i64 vb, .int .i64 vc, .string ⟨vt.toArray⟩] :=
    ⟨(hF1.call hc2 ho2).alloc _, (hR1.only ho2 hr0).alloc _, (hQ1.only ho2 hr1).alloc _, (hA1.only ho2 hac).alloc _, LBlk.new w2 _ _⟩
  have hbc : w2.heap.size ≠ c := Nat.ne_of_gt hc2.lt
  have hbr : w.heap.size ≠ w2.heap.size := Nat.ne_of_lt (hR1.only ho2 hr0).1
  have hbq : w.heap.size + 1 ≠ w2.heap.size := Nat.ne_of_lt (hQ1.only ho2 hr1).1
  have hba : bA ≠ w2.heap.size := Nat.ne_of_lt (hA1.only ho2 hac).1
  have hle2 : w.heap.size ≤ w2.heap.size := Nat.le_of_lt (hR1.only ho2 hr0).1
  clear hF1 hR1 hQ1 hA1 hc2 ho2
  have har' := har.symm
  have haq' := haq.symm
  have hbr' := hbr.symm
  have hbq' := hbq.symm
  have hba' := hba.symm
  unfold valV
  go_wp2_with fail
  generalize w2.alloc (.cells #[.int .i64 vk, .int .i64 vn, .int .i64 vr, .int .i64 vg, .int .i64 vb, .int .i64 vc, .string ⟨vt.toArray⟩] 25) = W2 at *
  generalize w2.heap.size = bB at *
  go_loopg [6] 6 (fun kx s6 wr => ∃ i : Nat, ∃ y : Va, s6 = .int .i64 (i : Int) ∧ kx + i = 6 ∧ y.w.length ≤ 100 ∧ Four c a len cap w wr bA bB [.int .i64 0, .int .i64 0, .int .i64 0, .int .i64 0, .int .i64 0, .int .i64 0, .string ⟨#[]⟩] [.int .i64 0, .int .i64 0, .int .i64 0, .int .i64 0, .int .i64 0, .int .i64 0, .string ⟨#[]⟩] [.int .i64 xk, .int .i64 xn, .int .i64 xr, .int .i64 xg, .int .i64 xb, .int .i64 xc, .string ⟨xt.toArray⟩] [.int .i64 y.k, .int .i64 y.n, .int .i64 y.r, .int .i64 y.g, .int .i64 y.b, .int .i64 y.c, .string ⟨y.w.toArray⟩])
  case atStart => exact ⟨0, ⟨vk, vn, vr, vg, vb, vc, vt⟩, rfl, rfl, hvt, H2⟩
  case round =>
    obtain ⟨i, ⟨yk, yn, yr, yg, yb, yc, yt⟩, rfl, hk, hyt, H3⟩ := hrel
    have HY := Lib.hid (show (⟨yk, yn, yr, yg, yb, yc, yt⟩ : Va).w.length ≤ 100 from hyt)
    dsimp only at H3
    clear H2 hvt hyt
    by_cases hlt : i < 6
    · have hlt' : (i : Int) < 6 := by omega
      cases hkk : (xk != yk)
      · obtain ⟨a0, a1, a2, a3, a4, a5, a6, _⟩ := seven_cells H3.x
        obtain ⟨b0, b1, b2, b3, b4, b5, b6, _⟩ := seven_cells H3.y
        obtain ⟨_, _, _, _, _, _, _, f0, f1, f2, f3, f4, f5, f6⟩ := seven_cells H3.r
        obtain ⟨_, _, _, _, _, _, _, z0, z1, z2, z3, z4, z5, z6⟩ := seven_cells H3.q
        go_wp2_with fail
        first
          | go_region
          | skip
        all_goals
          (try go_wp2_with fail)
          have hRz := put7_other (put7_blk H3.r (.int .i64 xk) (.int .i64 xn) (.int .i64 xr) (.int .i64 xg) (.int .i64 xb) (.int .i64 xc) (.string ⟨xt.toArray⟩)) (show w.heap.size ≠ w.heap.size + 1 by omega) (.int .i64 yk) (.int .i64 yn) (.int .i64 yr) (.int .i64 yg) (.int .i64 yb) (.int .i64 yc) (.string ⟨yt.toArray⟩)
          have hQz := put7_blk (put7_other H3.q (show w.heap.size + 1 ≠ w.heap.size by omega) (.int .i64 xk) (.int .i64 xn) (.int .i64 xr) (.int .i64 xg) (.int .i64 xb) (.int .i64 xc) (.string ⟨xt.toArray⟩)) (.int .i64 yk) (.int .i64 yn) (.int .i64 yr) (.int .i64 yg) (.int .i64 yb) (.int .i64 yc) (.string ⟨yt.toArray⟩)
          have hFz := fr_put7 (fr_put7 H3.fr (Nat.le_refl _) hr0 (.int .i64 xk) (.int .i64 xn) (.int .i64 xr) (.int .i64 xg) (.int .i64 xb) (.int .i64 xc) (.string ⟨xt.toArray⟩)) (Nat.le_succ _) hr1 (.int .i64 yk) (.int .i64 yn) (.int .i64 yr) (.int .i64 yg) (.int .i64 yb) (.int .i64 yc) (.string ⟨yt.toArray⟩)
          obtain ⟨p0, p1, p2, p3, p4, p5, p6, _⟩ := seven_cells hRz
          obtain ⟨q0, q1, q2, q3, q4, q5, q6, _⟩ := seven_cells hQz
          unfold put7 at p0 p1 p2 p3 p4 p5 p6 q0 q1 q2 q3 q4 q5 q6
          exact bodyPost_ret (v := .tuple #[valV ⟨xk, xn, xr, xg, xb, xc, xt⟩, valV ⟨yk, yn, yr, yg, yb, yc, yt⟩]) (by simp only [results, Tryz.results22]; simp [go_sem, p0, p1, p2, p3, p4, p5, p6, q0, q1, q2, q3, q4, q5, q6, valV]) rfl ⟨_, _, rfl, HX.out, HY.out, hFz.drew.cur, hFz.drew.only⟩
      · obtain ⟨a0, a1, a2, a3, a4, a5, a6, _⟩ := seven_cells H3.x
        obtain ⟨b0, b1, b2, b3, b4, b5, b6, _⟩ := seven_cells H3.y
        go_wp2_with fail
        refine (Once_draw _ c a len cap 6 H3.fr.cur).mono ?_
        rintro e w4 ⟨qq, rfl, hc4, ho4⟩
        have H4 := four_call H3 hc4 ho4 hr0 hr1 hac hbc
        clear a0 a1 a2 a3 a4 a5 a6 b0 b1 b2 b3 b4 b5 b6 H3 hc4 ho4
        cases qq
        · go_wp2_with fail
          refine (l6Draw_draw _ c a len cap H4.fr.cur).mono ?_
          rintro e w5 ⟨⟨nk, nn, nr, ng, nb, nc, nt⟩, rfl, hnt, hc5, ho5⟩
          have H5 := four_call H4 hc5 ho5 hr0 hr1 hac hbc
          obtain ⟨_, _, _, _, _, _, _, f0, f1, f2, f3, f4, f5, f6⟩ := seven_cells H5.y
          clear H4 hc5 ho5
          unfold valV
          go_wp2_with fail
          go_roundg (6 - (i + 1))
          case measure => omega
          case rel =>
            refine ⟨i + 1, ⟨nk, nn, nr, ng, nb, nc, nt⟩, by go_num, by omega, hnt, ?_⟩
            exact ⟨fr_put7 H5.fr hle2 hbc (.int .i64 nk) (.int .i64 nn) (.int .i64 nr) (.int .i64 ng) (.int .i64 nb) (.int .i64 nc) (.string ⟨nt.toArray⟩), put7_other H5.r hbr (.int .i64 nk) (.int .i64 nn) (.int .i64 nr) (.int .i64 ng) (.int .i64 nb) (.int .i64 nc) (.string ⟨nt.toArray⟩), put7_other H5.q hbq (.int .i64 nk) (.int .i64 nn) (.int .i64 nr) (.int .i64 ng) (.int .i64 nb) (.int .i64 nc) (.string ⟨nt.toArray⟩), put7_other H5.x hba (.int .i64 nk) (.int .i64 nn) (.int .i64 nr) (.int .i64 ng) (.int .i64 nb) (.int .i64 nc) (.string ⟨nt.toArray⟩), put7_blk H5.y (.int .i64 nk) (.int .i64 nn) (.int .i64 nr) (.int .i64 ng) (.int .i64 nb) (.int .i64 nc) (.string ⟨nt.toArray⟩)⟩
        · obtain ⟨a0, a1, a2, a3, a4, a5, a6, _⟩ := seven_cells H4.x
          obtain ⟨b0, b1, b2, b3, b4, b5, b6, _⟩ := seven_cells H4.y
          obtain ⟨_, _, _, _, _, _, _, f0, f1, f2, f3, f4, f5, f6⟩ := seven_cells H4.r
          obtain ⟨_, _, _, _, _, _, _, z0, z1, z2, z3, z4, z5, z6⟩ := seven_cells H4.q
          go_wp2_with fail
          first
            | go_region
            | skip
          all_goals
            (try go_wp2_with fail)
            have hRz := put7_other (put7_blk H4.r (.int .i64 xk) (.int .i64 xn) (.int .i64 xr) (.int .i64 xg) (.int .i64 xb) (.int .i64 xc) (.string ⟨xt.toArray⟩)) (show w.heap.size ≠ w.heap.size + 1 by omega) (.int .i64 yk) (.int .i64 yn) (.int .i64 yr) (.int .i64 yg) (.int .i64 yb) (.int .i64 yc) (.string ⟨yt.toArray⟩)
            have hQz := put7_blk (put7_other H4.q (show w.heap.size + 1 ≠ w.heap.size by omega) (.int .i64 xk) (.int .i64 xn) (.int .i64 xr) (.int .i64 xg) (.int .i64 xb) (.int .i64 xc) (.string ⟨xt.toArray⟩)) (.int .i64 yk) (.int .i64 yn) (.int .i64 yr) (.int .i64 yg) (.int .i64 yb) (.int .i64 yc) (.string ⟨yt.toArray⟩)
            have hFz := fr_put7 (fr_put7 H4.fr (Nat.le_refl _) hr0 (.int .i64 xk) (.int .i64 xn) (.int .i64 xr) (.int .i64 xg) (.int .i64 xb) (.int .i64 xc) (.string ⟨xt.toArray⟩)) (Nat.le_succ _) hr1 (.int .i64 yk) (.int .i64 yn) (.int .i64 yr) (.int .i64 yg) (.int .i64 yb) (.int .i64 yc) (.string ⟨yt.toArray⟩)
            obtain ⟨p0, p1, p2, p3, p4, p5, p6, _⟩ := seven_cells hRz
            obtain ⟨q0, q1, q2, q3, q4, q5, q6, _⟩ := seven_cells hQz
            unfold put7 at p0 p1 p2 p3 p4 p5 p6 q0 q1 q2 q3 q4 q5 q6
            exact bodyPost_ret (v := .tuple #[valV ⟨xk, xn, xr, xg, xb, xc, xt⟩, valV ⟨yk, yn, yr, yg, yb, yc, yt⟩]) (by simp only [results, Tryz.results22]; simp [go_sem, p0, p1, p2, p3, p4, p5, p6, q0, q1, q2, q3, q4, q5, q6, valV]) rfl ⟨_, _, rfl, HX.out, HY.out, hFz.drew.cur, hFz.drew.only⟩
    · have hlt' : ¬ (i : Int) < 6 := by omega
      obtain ⟨a0, a1, a2, a3, a4, a5, a6, _⟩ := seven_cells H3.x
      obtain ⟨b0, b1, b2, b3, b4, b5, b6, _⟩ := seven_cells H3.y
      obtain ⟨_, _, _, _, _, _, _, f0, f1, f2, f3, f4, f5, f6⟩ := seven_cells H3.r
      obtain ⟨_, _, _, _, _, _, _, z0, z1, z2, z3, z4, z5, z6⟩ := seven_cells H3.q
      go_wp2_with fail
      first
        | go_region
        | skip
      all_goals
        (try go_wp2_with fail)
        have hRz := put7_other (put7_blk H3.r (.int .i64 xk) (.int .i64 xn) (.int .i64 xr) (.int .i64 xg) (.int .i64 xb) (.int .i64 xc) (.string ⟨xt.toArray⟩)) (show w.heap.size ≠ w.heap.size + 1 by omega) (.int .i64 yk) (.int .i64 yn) (.int .i64 yr) (.int .i64 yg) (.int .i64 yb) (.int .i64 yc) (.string ⟨yt.toArray⟩)
        have hQz := put7_blk (put7_other H3.q (show w.heap.size + 1 ≠ w.heap.size by omega) (.int .i64 xk) (.int .i64 xn) (.int .i64 xr) (.int .i64 xg) (.int .i64 xb) (.int .i64 xc) (.string ⟨xt.toArray⟩)) (.int .i64 yk) (.int .i64 yn) (.int .i64 yr) (.int .i64 yg) (.int .i64 yb) (.int .i64 yc) (.string ⟨yt.toArray⟩)
        have hFz := fr_put7 (fr_put7 H3.fr (Nat.le_refl _) hr0 (.int .i64 xk) (.int .i64 xn) (.int .i64 xr) (.int .i64 xg) (.int .i64 xb) (.int .i64 xc) (.string ⟨xt.toArray⟩)) (Nat.le_succ _) hr1 (.int .i64 yk) (.int .i64 yn) (.int .i64 yr) (.int .i64 yg) (.int .i64 yb) (.int .i64 yc) (.string ⟨yt.toArray⟩)
        obtain ⟨p0, p1, p2, p3, p4, p5, p6, _⟩ := seven_cells hRz
        obtain ⟨q0, q1, q2, q3, q4, q5, q6, _⟩ := seven_cells hQz
        unfold put7 at p0 p1 p2 p3 p4 p5 p6 q0 q1 q2 q3 q4 q5 q6
        exact bodyPost_ret (v := .tuple #[valV ⟨xk, xn, xr, xg, xb, xc, xt⟩, valV ⟨yk, yn, yr, yg, yb, yc, yt⟩]) (by simp only [results, Tryz.results22]; simp [go_sem, p0, p1, p2, p3, p4, p5, p6, q0, q1, q2, q3, q4, q5, q6, valV]) rfl ⟨_, _, rfl, HX.out, HY.out, hFz.drew.cur, hFz.drew.only⟩

end Go.Proofs.YtkeofllcccgbbaaGreatDoor.D7
