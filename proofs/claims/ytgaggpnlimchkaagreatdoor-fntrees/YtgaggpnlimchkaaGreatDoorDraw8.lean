/- Draws of chapter 8. -/
import Derived.Test.YtgaggpnlimchkaaGreatDoorDraw6
import Derived.Test.YtgaggpnlimchkaaGreatDoorFound
import Derived.Test.YtgaggpnlimchkaaGreatDoorBase6b
namespace Go.Proofs.YtgaggpnlimchkaaGreatDoor.D8
open Go.Proofs.YtgaggpnlimchkaaGreatDoor.P1 Go.Proofs.YtgaggpnlimchkaaGreatDoor.B1 Go.Proofs.YtgaggpnlimchkaaGreatDoor.B2 Go.Proofs.YtgaggpnlimchkaaGreatDoor.T1 Go.Proofs.YtgaggpnlimchkaaGreatDoor.BT Go.Proofs.YtgaggpnlimchkaaGreatDoor.P5 Go.Proofs.YtgaggpnlimchkaaGreatDoor.P6 Go.Proofs.YtgaggpnlimchkaaGreatDoor.B5 Go.Proofs.YtgaggpnlimchkaaGreatDoor.B6 Go.Proofs.YtgaggpnlimchkaaGreatDoor.S7 Go.Proofs.YtgaggpnlimchkaaGreatDoor.D1 Go.Proofs.YtgaggpnlimchkaaGreatDoor.D2 Go.Proofs.YtgaggpnlimchkaaGreatDoor.DB Go.Proofs.YtgaggpnlimchkaaGreatDoor.D5 Go.Proofs.YtgaggpnlimchkaaGreatDoor.D6 Go.Proofs.YtgaggpnlimchkaaGreatDoor.RI
open Go.ChangeShapes Go.WideShapes Go.ChangeAt Go.RowKit
set_option linter.unusedVariables false

/-- What l8Draw answers. -/
def InLook (n : Int) : Prop := -1 ≤ n ∧ n ≤ 6

def shows2 : List (List UInt8) := [[115, 104, 111, 119, 110], [104, 105, 100, 100, 101, 110]]

theorem shows2_at {k : Nat} (h : k < 2) : ∃ t, shows2[k]? = some t ∧ t.length ≤ 10 := by
  have : k = 0 ∨ k = 1 := by omega
  rcases this with rfl | rfl <;> exact ⟨_, rfl, by decide⟩

def forms3 : List (List UInt8) := [[112, 108, 97, 105, 110], [114, 111, 117, 110, 100], [104, 105, 100, 100, 101, 110]]

theorem forms3_at {k : Nat} (h : k < 3) : ∃ t, forms3[k]? = some t ∧ t.length ≤ 10 := by
  have : k = 0 ∨ k = 1 ∨ k = 2 := by omega
  rcases this with rfl | rfl | rfl <;> exact ⟨_, rfl, by decide⟩

/-- The region of a length: what its operations leave. -/
def lenB (c : Nat) (a : Option Addr) (len cap : Nat) (w0 : World) (f : Nat → Bool) (w : World) : Prop :=
  Fr c a len cap w0 w ∧ ∃ u0 u1 u2 u3 u4 u5 u6, LBlk w w0.heap.size [u0, u1, u2, u3, u4, u5, u6] ∧ (f 8 = true → ∃ K N : Int, [u0, u1, u2, u3, u4, u5, u6] = [.int .i64 K, .int .i64 N, .int .i64 0, .int .i64 0, .int .i64 0, .int .i64 0, .string ⟨#[]⟩])

def three : List Value := [.int .i64 2, .int .i64 2, .int .i64 3]

def lenF (c r : Nat) (i : Nat) (v : Value) (w : World) : Prop := match i with
  | 0 => ∃ g, v = .slice (some ⟨g, 0, none⟩) 3 3 ∧ r < g ∧ LBlk w g three
  | 1 => v = .pointer (some ⟨c, 0, none⟩)
  | 2 => ∃ K : Nat, K < 3 ∧ v = .int .i64 (K : Int)
  | 3 => ∃ g K, K < 3 ∧ v = .pointer (some ⟨g, K, none⟩) ∧ r < g ∧ LBlk w g three
  | 4 => ∃ n : Int, v = .int .i64 n
  | 5 => v = .pointer (some ⟨c, 0, none⟩)
  | 6 => ∃ n : Int, v = .int .i64 n
  | 7 => ∃ K N : Int, v = .agg #[.int .i64 K, .int .i64 N, .int .i64 0, .int .i64 0, .int .i64 0, .int .i64 0, .string ⟨#[]⟩]
  | _ => True

def lenD (i : Nat) : Option Nat := match i with
  | 0 => some 36
  | 1 => some 37
  | 2 => some 38
  | 3 => some 39
  | 4 => some 40
  | 5 => some 41
  | 6 => some 42
  | 7 => some 43
  | _ => none

theorem lenF_keep {c r : Nat} {w w' : World} (hk : ∀ g, r < g → LBlk w g three → LBlk w' g three) (j : Nat) (v : Value) (hj : j < 9) (h : lenF c r j v w) : lenF c r j v w' := by
  have : j = 0 ∨ j = 1 ∨ j = 2 ∨ j = 3 ∨ j = 4 ∨ j = 5 ∨ j = 6 ∨ j = 7 ∨ j = 8 := by omega
  rcases this with rfl | rfl | rfl | rfl | rfl | rfl | rfl | rfl | rfl
  · obtain ⟨g, e, hg, ht⟩ := h; exact ⟨g, e, hg, hk g hg ht⟩
  · exact h
  · exact h
  · obtain ⟨g, K, hK, e, hg, ht⟩ := h; exact ⟨g, K, hK, e, hg, hk g hg ht⟩
  · exact h
  · exact h
  · exact h
  · exact h
  · exact h

set_option maxRecDepth 20000 in
set_option maxHeartbeats 4000000 in
theorem l8DrawValue_draw (w : World) (c : Nat) (a : Option Addr) (len cap : Nat) (l : Int) (h : Cur w c a len cap) :
    Calls Tryz.prog 100 #[.pointer (some ⟨c, 0, none⟩), .int .i64 l] w (DrawnV c a len cap w) := by
  have hF1 := (Fr.refl h).alloc (.cells #[.int .i64 0, .int .i64 0, .int .i64 0, .int .i64 0, .int .i64 0, .int .i64 0, .string ⟨#[]⟩] 105)
  have hr1 : LBlk (w.alloc (.cells #[.int .i64 0, .int .i64 0, .int .i64 0, .int .i64 0, .int .i64 0, .int .i64 0, .string ⟨#[]⟩] 105)) w.heap.size [.int .i64 0, .int .i64 0, .int .i64 0, .int .i64 0, .int .i64 0, .int .i64 0, .string ⟨#[]⟩] := LBlk.new w _ _
  have hrc : w.heap.size ≠ c := Nat.ne_of_gt h.lt
  have hcw := h.lt
  clear h
  by_cases h0 : l = 0
  · subst h0
    go_enter Tryz.func100, Tryz.ntmps100
    go_wp2_with fail
    generalize w.alloc (.cells #[.int .i64 0, .int .i64 0, .int .i64 0, .int .i64 0, .int .i64 0, .int .i64 0, .string ⟨#[]⟩] 105) = W at *
    refine (Below_draw _ c a len cap 1001 hF1.cur).mono ?_
    rintro e w2 ⟨n2, hn2, rfl, hc2, ho2⟩
    obtain ⟨K2, rfl, hK2⟩ := below_nat (m := 1001) hn2 (by omega)
    have hF2 := hF1.call hc2 ho2
    have hr2 := hr1.only ho2 hrc
    clear hF1 hr1 hc2 ho2 hn2
    obtain ⟨_, _, _, _, _, _, _, f0, f1, f2, f3, f4, f5, f6⟩ := seven_cells hr2
    go_wp2_with fail
    obtain ⟨p0, p1, p2, p3, p4, p5, p6, _⟩ := seven_cells (put7_blk hr2 (.int .i64 1) (.int .i64 (K2 : Int)) (.int .i64 0) (.int .i64 0) (.int .i64 0) (.int .i64 0) (.string ⟨#[]⟩))
    unfold put7 at p0 p1 p2 p3 p4 p5 p6
    have hFz := D6.fr_put7 hF2 (Nat.le_refl _) hrc (.int .i64 1) (.int .i64 (K2 : Int)) (.int .i64 0) (.int .i64 0) (.int .i64 0) (.int .i64 0) (.string ⟨#[]⟩)
    exact bodyPost_ret (v := valV ⟨1, (K2 : Int), 0, 0, 0, 0, []⟩) (by simp only [results, Tryz.results100]; simp [go_sem, p0, p1, p2, p3, p4, p5, p6, valV]) rfl ⟨⟨1, (K2 : Int), 0, 0, 0, 0, []⟩, rfl, by simp, hFz.cur, hFz.only⟩
  · by_cases h3 : l = 3
    · subst h3
      clear h0
      go_enter Tryz.func100, Tryz.ntmps100
      go_wp2_with fail
      generalize w.alloc (.cells #[.int .i64 0, .int .i64 0, .int .i64 0, .int .i64 0, .int .i64 0, .int .i64 0, .string ⟨#[]⟩] 105) = W at *
      refine (Below_draw _ c a len cap 256 hF1.cur).mono ?_
      rintro e w2 ⟨n2, hn2, rfl, hc2, ho2⟩
      obtain ⟨R, rfl, hK2⟩ := below_nat (m := 256) hn2 (by omega)
      have hF2 := hF1.call hc2 ho2
      have hr2 := hr1.only ho2 hrc
      clear hF1 hr1 hc2 ho2 hn2
      go_wp2_with fail
      refine (Below_draw _ c a len cap 256 hF2.cur).mono ?_
      rintro e w3 ⟨n3, hn3, rfl, hc3, ho3⟩
      obtain ⟨G, rfl, hK3⟩ := below_nat (m := 256) hn3 (by omega)
      have hF3 := hF2.call hc3 ho3
      have hr3 := hr2.only ho3 hrc
      clear hF2 hr2 hc3 ho3 hn3
      go_wp2_with fail
      refine (Below_draw _ c a len cap 256 hF3.cur).mono ?_
      rintro e w4 ⟨n4, hn4, rfl, hc4, ho4⟩
      obtain ⟨B, rfl, hK4⟩ := below_nat (m := 256) hn4 (by omega)
      have hF4 := hF3.call hc4 ho4
      have hr4 := hr3.only ho4 hrc
      clear hF3 hr3 hc4 ho4 hn4
      obtain ⟨_, _, _, _, _, _, _, f0, f1, f2, f3, f4, f5, f6⟩ := seven_cells hr4
      go_wp2_with fail
      obtain ⟨p0, p1, p2, p3, p4, p5, p6, _⟩ := seven_cells (put7_blk hr4 (.int .i64 4) (.int .i64 0) (.int .i64 (R : Int)) (.int .i64 (G : Int)) (.int .i64 (B : Int)) (.int .i64 255) (.string ⟨#[]⟩))
      unfold put7 at p0 p1 p2 p3 p4 p5 p6
      have hFz := D6.fr_put7 hF4 (Nat.le_refl _) hrc (.int .i64 4) (.int .i64 0) (.int .i64 (R : Int)) (.int .i64 (G : Int)) (.int .i64 (B : Int)) (.int .i64 255) (.string ⟨#[]⟩)
      exact bodyPost_ret (v := valV ⟨4, 0, (R : Int), (G : Int), (B : Int), 255, []⟩) (by simp only [results, Tryz.results100]; simp [go_sem, p0, p1, p2, p3, p4, p5, p6, valV]) rfl ⟨⟨4, 0, (R : Int), (G : Int), (B : Int), 255, []⟩, rfl, by simp, hFz.cur, hFz.only⟩
    · by_cases h4 : l = 4
      · subst h4
        clear h0 h3
        go_enter Tryz.func100, Tryz.ntmps100
        go_wp2_with fail
        have hsz : (w.alloc (.cells #[.int .i64 0, .int .i64 0, .int .i64 0, .int .i64 0, .int .i64 0, .int .i64 0, .string ⟨#[]⟩] 105)).heap.size = w.heap.size + 1 := by simp
        generalize w.alloc (.cells #[.int .i64 0, .int .i64 0, .int .i64 0, .int .i64 0, .int .i64 0, .int .i64 0, .string ⟨#[]⟩] 105) = W at *
        refine (Below_draw _ c a len cap 2 (hF1.alloc _).cur).mono ?_
        rintro e w2 ⟨n2, hn2, rfl, hc2, ho2⟩
        obtain ⟨K2, rfl, hK2⟩ := below_nat (m := 2) hn2 (by omega)
        have hF2 := (hF1.alloc _).call hc2 ho2
        have hr2 := (hr1.alloc _).only ho2 hrc
        obtain ⟨t, ht, htl⟩ := shows2_at hK2
        have hL := (LBlk.new _ (shows2.map fun t => Value.string ⟨t.toArray⟩) 9).only ho2 (Nat.ne_of_gt hF1.cur.lt)
        have hcell := (hL.2 K2 (.string ⟨t.toArray⟩) (by rw [List.getElem?_map, ht]; rfl)).1
        rw [hsz] at hcell
        have hK' : (K2 : Int) < 2 := by omega
        have hK0 : (0 : Int) ≤ (K2 : Int) := by omega
        obtain ⟨_, _, _, _, _, _, _, f0, f1, f2, f3, f4, f5, f6⟩ := seven_cells hr2
        clear hL ht hF1 hr1 hc2 ho2 hn2
        go_wp2_with fail
        obtain ⟨p0, p1, p2, p3, p4, p5, p6, _⟩ := seven_cells (put7_blk hr2 (.int .i64 5) (.int .i64 0) (.int .i64 0) (.int .i64 0) (.int .i64 0) (.int .i64 0) (.string ⟨t.toArray⟩))
        unfold put7 at p0 p1 p2 p3 p4 p5 p6
        have hFz := D6.fr_put7 hF2 (Nat.le_refl _) hrc (.int .i64 5) (.int .i64 0) (.int .i64 0) (.int .i64 0) (.int .i64 0) (.int .i64 0) (.string ⟨t.toArray⟩)
        exact bodyPost_ret (v := valV ⟨5, 0, 0, 0, 0, 0, t⟩) (by simp only [results, Tryz.results100]; simp [go_sem, p0, p1, p2, p3, p4, p5, p6, valV]) rfl ⟨⟨5, 0, 0, 0, 0, 0, t⟩, rfl, by show t.length ≤ 100; omega, hFz.cur, hFz.only⟩
      · by_cases h5 : l = 5
        · subst h5
          clear h0 h3 h4
          go_enter Tryz.func100, Tryz.ntmps100
          go_wp2_with fail
          have hsz : (w.alloc (.cells #[.int .i64 0, .int .i64 0, .int .i64 0, .int .i64 0, .int .i64 0, .int .i64 0, .string ⟨#[]⟩] 105)).heap.size = w.heap.size + 1 := by simp
          generalize w.alloc (.cells #[.int .i64 0, .int .i64 0, .int .i64 0, .int .i64 0, .int .i64 0, .int .i64 0, .string ⟨#[]⟩] 105) = W at *
          refine (Below_draw _ c a len cap 3 (hF1.alloc _).cur).mono ?_
          rintro e w2 ⟨n2, hn2, rfl, hc2, ho2⟩
          obtain ⟨K2, rfl, hK2⟩ := below_nat (m := 3) hn2 (by omega)
          have hF2 := (hF1.alloc _).call hc2 ho2
          have hr2 := (hr1.alloc _).only ho2 hrc
          obtain ⟨t, ht, htl⟩ := forms3_at hK2
          have hL := (LBlk.new _ (forms3.map fun t => Value.string ⟨t.toArray⟩) 9).only ho2 (Nat.ne_of_gt hF1.cur.lt)
          have hcell := (hL.2 K2 (.string ⟨t.toArray⟩) (by rw [List.getElem?_map, ht]; rfl)).1
          rw [hsz] at hcell
          have hK' : (K2 : Int) < 3 := by omega
          have hK0 : (0 : Int) ≤ (K2 : Int) := by omega
          obtain ⟨_, _, _, _, _, _, _, f0, f1, f2, f3, f4, f5, f6⟩ := seven_cells hr2
          clear hL ht hF1 hr1 hc2 ho2 hn2
          go_wp2_with fail
          obtain ⟨p0, p1, p2, p3, p4, p5, p6, _⟩ := seven_cells (put7_blk hr2 (.int .i64 5) (.int .i64 0) (.int .i64 0) (.int .i64 0) (.int .i64 0) (.int .i64 0) (.string ⟨t.toArray⟩))
          unfold put7 at p0 p1 p2 p3 p4 p5 p6
          have hFz := D6.fr_put7 hF2 (Nat.le_refl _) hrc (.int .i64 5) (.int .i64 0) (.int .i64 0) (.int .i64 0) (.int .i64 0) (.int .i64 0) (.string ⟨t.toArray⟩)
          exact bodyPost_ret (v := valV ⟨5, 0, 0, 0, 0, 0, t⟩) (by simp only [results, Tryz.results100]; simp [go_sem, p0, p1, p2, p3, p4, p5, p6, valV]) rfl ⟨⟨5, 0, 0, 0, 0, 0, t⟩, rfl, by show t.length ≤ 100; omega, hFz.cur, hFz.only⟩
        · have e0 : (l == 0) = false := by simpa using h0
          have e3 : (l == 3) = false := by simpa using h3
          have e4 : (l == 4) = false := by simpa using h4
          have e5 : (l == 5) = false := by simpa using h5
          clear h0 h3 h4 h5
          go_enter Tryz.func100, Tryz.ntmps100
          go_wp2_with fail
          generalize w.alloc (.cells #[.int .i64 0, .int .i64 0, .int .i64 0, .int .i64 0, .int .i64 0, .int .i64 0, .string ⟨#[]⟩] 105) = W at *
          refine region_inv (by kernel_rfl) (Inv 9 44 lenD [(0, .pointer (some ⟨c, 0, none⟩)), (4, .pointer (some ⟨w.heap.size, 0, none⟩))] (lenB c a len cap w) (lenF c w.heap.size)) ?_ ?_ ?_
          · refine Inv.start rfl rfl ?_ ⟨hF1.drew, _, _, _, _, _, _, _, hr1, fun h => by cases h⟩
            simp
          · clear hF1 hr1
            intro L A W hL hJ i hi
            have hi9 : i < 9 := by
              unfold Region.ready at hi
              rw [List.mem_filter] at hi
              simpa using hi.1
            have s0 := hJ.ks (0, .pointer (some ⟨c, 0, none⟩)) (by simp)
            have s4 := hJ.ks (4, .pointer (some ⟨w.heap.size, 0, none⟩)) (by simp)
            obtain ⟨hFr, u0, u1, u2, u3, u4, u5, u6, hr, her⟩ := hJ.bs
            have hok : okI 9 44 lenD [0, 4] = true := by decide
            have hcase : i = 0 ∨ i = 1 ∨ i = 2 ∨ i = 3 ∨ i = 4 ∨ i = 5 ∨ i = 6 ∨ i = 7 ∨ i = 8 := by omega
            rcases hcase with rfl | rfl | rfl | rfl | rfl | rfl | rfl | rfl | rfl
            · refine wpOp_of rfl rfl (wp_value (v := .slice (some ⟨W.heap.size, 0, none⟩) 3 3) (W' := W.alloc (.cells three.toArray 2)) ?_ (Inv.step hok hJ hL (i := 0) (by decide) _ rfl ⟨hFr.alloc _, _, _, _, _, _, _, _, hr.alloc _, her⟩ (lenF_keep fun g hg ht => ht.alloc _) ⟨W.heap.size, rfl, hr.1, LBlk.new W _ _⟩))
              unfold three
              go_simp
            · refine wpOp_of rfl rfl (wp_value (v := .pointer (some ⟨c, 0, none⟩)) (W' := W) ?_ (Inv.step hok hJ hL (i := 1) (by decide) _ rfl ⟨hFr, _, _, _, _, _, _, _, hr, her⟩ (fun _ _ _ h => h) rfl))
              simp [execOp, Act.eval, s0, go_sem]
            · obtain ⟨hnot, hdep⟩ := ready_of hL rfl hi
              have l1 : L[1]?.getD false = true := hdep ⟨1, .data⟩ (by simp) rfl
              have hs : A.tmps[37]?.getD undef = .pointer (some ⟨c, 0, none⟩) := hJ.fs 1 (by decide) 37 rfl l1
              refine wpOp_of rfl rfl (wp_enter (f := 48) (args := #[.pointer (some ⟨c, 0, none⟩), .int .i64 3]) ?_ ?_)
              · simp [execOp, Act.eval, hs, go_sem]
              · refine (Below_draw _ _ a len cap 3 hFr.cur).mono ?_
                rintro e w4 ⟨n, hn, rfl, hc4, ho4⟩
                obtain ⟨K, rfl, hK⟩ := below_nat (m := 3) hn (by omega)
                exact ⟨_, rfl, Inv.step hok hJ hL (i := 2) (by decide) _ rfl ⟨hFr.call hc4 ho4, _, _, _, _, _, _, _, hr.only ho4 hrc, her⟩ (lenF_keep fun g hg ht => ht.only ho4 (by omega)) ⟨K, hK, rfl⟩⟩
            · obtain ⟨hnot, hdep⟩ := ready_of hL rfl hi
              have l0 : L[0]?.getD false = true := hdep ⟨0, .data⟩ (by simp) rfl
              have l2 : L[2]?.getD false = true := hdep ⟨2, .data⟩ (by simp) rfl
              obtain ⟨g, es, hg, ht⟩ := hJ.fs 0 (by decide) 36 rfl l0
              obtain ⟨K, hK, ek⟩ := hJ.fs 2 (by decide) 38 rfl l2
              have hK0 : (0 : Int) ≤ (K : Int) := by omega
              have hK2 : (K : Int) < 3 := by omega
              refine wpOp_of rfl rfl (wp_value (v := .pointer (some ⟨g, K, none⟩)) (W' := W) ?_ (Inv.step hok hJ hL (i := 3) (by decide) _ rfl ⟨hFr, _, _, _, _, _, _, _, hr, her⟩ (fun _ _ _ h => h) ⟨g, K, hK, rfl, hg, ht⟩))
              simp [execOp, Act.eval, es, ek]
              go_simp
            · obtain ⟨hnot, hdep⟩ := ready_of hL rfl hi
              have l3 : L[3]?.getD false = true := hdep ⟨3, .data⟩ (by simp) rfl
              obtain ⟨g, K, hK, ep, hg, ht⟩ := hJ.fs 3 (by decide) 39 rfl l3
              obtain ⟨n, hcell⟩ : ∃ n : Int, W.cell? ⟨g, K, none⟩ = some (.int .i64 n) := by
                have : K = 0 ∨ K = 1 ∨ K = 2 := by omega
                rcases this with rfl | rfl | rfl
                · exact ⟨_, (ht.2 0 _ rfl).1⟩
                · exact ⟨_, (ht.2 1 _ rfl).1⟩
                · exact ⟨_, (ht.2 2 _ rfl).1⟩
              refine wpOp_of rfl rfl (wp_value (v := .int .i64 n) (W' := W) ?_ (Inv.step hok hJ hL (i := 4) (by decide) _ rfl ⟨hFr, _, _, _, _, _, _, _, hr, her⟩ (fun _ _ _ h => h) ⟨n, rfl⟩))
              simp [execOp, Act.eval, ep]
              go_simp
            · refine wpOp_of rfl rfl (wp_value (v := .pointer (some ⟨c, 0, none⟩)) (W' := W) ?_ (Inv.step hok hJ hL (i := 5) (by decide) _ rfl ⟨hFr, _, _, _, _, _, _, _, hr, her⟩ (fun _ _ _ h => h) rfl))
              simp [execOp, Act.eval, s0, go_sem]
            · obtain ⟨hnot, hdep⟩ := ready_of hL rfl hi
              have l1 : L[5]?.getD false = true := hdep ⟨5, .data⟩ (by simp) rfl
              have hs : A.tmps[41]?.getD undef = .pointer (some ⟨c, 0, none⟩) := hJ.fs 5 (by decide) 41 rfl l1
              refine wpOp_of rfl rfl (wp_enter (f := 48) (args := #[.pointer (some ⟨c, 0, none⟩), .int .i64 200]) ?_ ?_)
              · simp [execOp, Act.eval, hs, go_sem]
              · refine (Below_draw _ _ a len cap 200 hFr.cur).mono ?_
                rintro e w4 ⟨n, hn, rfl, hc4, ho4⟩
                exact ⟨_, rfl, Inv.step hok hJ hL (i := 6) (by decide) _ rfl ⟨hFr.call hc4 ho4, _, _, _, _, _, _, _, hr.only ho4 hrc, her⟩ (lenF_keep fun g hg ht => ht.only ho4 (by omega)) ⟨n, rfl⟩⟩
            · obtain ⟨hnot, hdep⟩ := ready_of hL rfl hi
              have l4 : L[4]?.getD false = true := hdep ⟨4, .data⟩ (by simp) rfl
              have l6 : L[6]?.getD false = true := hdep ⟨6, .data⟩ (by simp) rfl
              obtain ⟨K, ek⟩ := hJ.fs 4 (by decide) 40 rfl l4
              obtain ⟨N, en⟩ := hJ.fs 6 (by decide) 42 rfl l6
              refine wpOp_of rfl rfl (wp_value (v := .agg #[.int .i64 K, .int .i64 N, .int .i64 0, .int .i64 0, .int .i64 0, .int .i64 0, .string ⟨#[]⟩]) (W' := W) ?_ (Inv.step hok hJ hL (i := 7) (by decide) _ rfl ⟨hFr, _, _, _, _, _, _, _, hr, her⟩ (fun _ _ _ h => h) ⟨K, N, rfl⟩))
              simp [execOp, Act.eval, ek, en]
              go_simp
            · obtain ⟨hnot, hdep⟩ := ready_of hL rfl hi
              have l7 : L[7]?.getD false = true := hdep ⟨7, .data⟩ (by simp) rfl
              obtain ⟨K, N, hs⟩ := hJ.fs 7 (by decide) 43 rfl l7
              refine wpOp_of rfl rfl (wp_stored (W' := put7 W w.heap.size (.int .i64 K) (.int .i64 N) (.int .i64 0) (.int .i64 0) (.int .i64 0) (.int .i64 0) (.string ⟨#[]⟩)) ?_ (Inv.step hok hJ hL (i := 8) (v := undef) (by decide) none rfl ⟨D6.fr_put7 hFr (Nat.le_refl _) hrc _ _ _ _ _ _ _, _, _, _, _, _, _, _, put7_blk hr _ _ _ _ _ _ _, fun _ => ⟨K, N, rfl⟩⟩ (lenF_keep fun g hg ht => put7_other ht (by omega) _ _ _ _ _ _ _) trivial))
              obtain ⟨c0, c1, c2, c3, c4, c5, c6, f0, f1, f2, f3, f4, f5, f6⟩ := seven_cells hr
              simp [execOp, Act.eval, s4, hs, go_sem, put7, c0, c1, c2, c3, c4, c5, c6, f0, f1, f2, f3, f4, f5, f6]
          · intro L A W hL hJ hr
            have hd := ready_all (by kernel_rfl) hL hr
            have s4 := hJ.ks (4, .pointer (some ⟨w.heap.size, 0, none⟩)) (by simp)
            obtain ⟨hFr, u0, u1, u2, u3, u4, u5, u6, hb, her⟩ := hJ.bs
            obtain ⟨K, N, he⟩ := her (hd 8 (by decide))
            rw [he] at hb
            obtain ⟨p0, p1, p2, p3, p4, p5, p6, _⟩ := seven_cells hb
            have hdf := hJ.df
            go_wp2_with fail
            exact bodyPost_ret (v := valV ⟨K, N, 0, 0, 0, 0, []⟩) (by simp only [results, Tryz.results100]; simp [go_sem, s4, p0, p1, p2, p3, p4, p5, p6, valV]) hdf ⟨⟨K, N, 0, 0, 0, 0, []⟩, rfl, by simp, hFr.cur, hFr.only⟩

def looks9 : List (List UInt8) := [[99, 108, 101, 97, 114], [119, 105, 100, 101], [108, 101, 102, 116], [99, 111, 108, 111, 114], [115, 104, 111, 119], [102, 111, 114, 109], [], [87, 105, 100, 101], [119, 104, 97, 116]]

theorem looks9_at {k : Nat} (h : k < 9) : ∃ t, looks9[k]? = some t ∧ t.length ≤ 10 := by
  have : k = 0 ∨ k = 1 ∨ k = 2 ∨ k = 3 ∨ k = 4 ∨ k = 5 ∨ k = 6 ∨ k = 7 ∨ k = 8 := by omega
  rcases this with rfl | rfl | rfl | rfl | rfl | rfl | rfl | rfl | rfl <;> exact ⟨_, rfl, by decide⟩

/-- A short text that a draw from the bytes answers. -/
def GivenS (n : Nat) (w : World) (e : Ending) (w' : World) : Prop := ∃ t : List UInt8, e = .returned (.string ⟨t.toArray⟩) ∧ t.length ≤ n ∧ Below w.heap.size w w'

/-- A look and a value that a draw from the bytes answers. -/
def GivenLV (w : World) (e : Ending) (w' : World) : Prop := ∃ (l : Int) (x : Va), e = .returned (.tuple #[.int .i64 l, valV x]) ∧ InLook l ∧ x.w.length ≤ 100 ∧ Below w.heap.size w w'

end Go.Proofs.YtgaggpnlimchkaaGreatDoor.D8
