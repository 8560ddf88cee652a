/- Draws of chapter 8. -/
import Derived.Test.YtjgfbbjecbeipaaGreatDoorDraw6
import Derived.Test.YtjgfbbjecbeipaaGreatDoorInv
import Derived.Test.YtjgfbbjecbeipaaGreatDoorBase6b
namespace Go.Proofs.YtjgfbbjecbeipaaGreatDoor.D8
open Go.Proofs.YtjgfbbjecbeipaaGreatDoor.P1 Go.Proofs.YtjgfbbjecbeipaaGreatDoor.B1 Go.Proofs.YtjgfbbjecbeipaaGreatDoor.B2 Go.Proofs.YtjgfbbjecbeipaaGreatDoor.T1 Go.Proofs.YtjgfbbjecbeipaaGreatDoor.BT Go.Proofs.YtjgfbbjecbeipaaGreatDoor.P5 Go.Proofs.YtjgfbbjecbeipaaGreatDoor.P6 Go.Proofs.YtjgfbbjecbeipaaGreatDoor.B5 Go.Proofs.YtjgfbbjecbeipaaGreatDoor.B6 Go.Proofs.YtjgfbbjecbeipaaGreatDoor.S7 Go.Proofs.YtjgfbbjecbeipaaGreatDoor.D1 Go.Proofs.YtjgfbbjecbeipaaGreatDoor.D2 Go.Proofs.YtjgfbbjecbeipaaGreatDoor.DB Go.Proofs.YtjgfbbjecbeipaaGreatDoor.D5 Go.Proofs.YtjgfbbjecbeipaaGreatDoor.D6 Go.Proofs.YtjgfbbjecbeipaaGreatDoor.RI
open Go.ChangeShapes Go.WideShapes Go.ChangeAt Go.RowKit
set_option linter.unusedVariables false

/-- What l8Draw answers. -/
def InLook (n : Int) : Prop := -1 ≤ n ∧ n ≤ 6

set_option maxHeartbeats 1000000 in
theorem l8Draw_draw (w : World) (c : Nat) (a : Option Addr) (len cap : Nat) (h : Cur w c a len cap) :
    Calls Tryz.prog 29 #[.pointer (some ⟨c, 0, none⟩)] w (Drawn InLook c a len cap w) := by
  go_enter Tryz.func29, Tryz.ntmps29
  go_wp2_with fail
  refine (Once_draw _ c a len cap 10 h).mono ?_
  rintro e w1 ⟨b, rfl, hc1, ho1⟩
  cases b
  · go_wp2_with fail
    refine (Below_draw _ c a len cap 6 hc1).mono ?_
    rintro e w2 ⟨x, ⟨hx0, hx1, _⟩, rfl, hc2, ho2⟩
    go_wp2
    go_ret
    exact ⟨x, ⟨by omega, by omega⟩, rfl, hc2, ho1.trans ho2⟩
  · go_wp2_with fail
    refine (Below_draw _ c a len cap 2 (hc1.alloc _)).mono ?_
    rintro e w2 ⟨x, ⟨hx0, hx1, _⟩, rfl, hc2, ho2⟩
    have hx1' := hx1 (by omega)
    clear hx1
    obtain ⟨v, hv, hcell⟩ := made_cell [-1, 6] _ ho2 hc1.lt hx0 (by simpa using hx1')
    have hvb : InLook v := by unfold InLook; simp at hv; omega
    clear hv
    have hk := (ho1.trans (only_new w1 _ c)).trans ho2
    go_wp2
    go_ret
    exact ⟨v, hvb, rfl, hc2, hk⟩

def shows2 : List (List UInt8) := [[115, 104, 111, 119, 110], [104, 105, 100, 100, 101, 110]]

theorem shows2_at {k : Nat} (h : k < 2) : ∃ t, shows2[k]? = some t ∧ t.length ≤ 10 := by
  have : k = 0 ∨ k = 1 := by omega
  rcases this with rfl | rfl <;> exact ⟨_, rfl, by decide⟩

def forms3 : List (List UInt8) := [[112, 108, 97, 105, 110], [114, 111, 117, 110, 100], [104, 105, 100, 100, 101, 110]]

theorem forms3_at {k : Nat} (h : k < 3) : ∃ t, forms3[k]? = some t ∧ t.length ≤ 10 := by
  have : k = 0 ∨ k = 1 ∨ k = 2 := by omega
  rcases this with rfl | rfl | rfl <;> exact ⟨_, rfl, by decide⟩

/-- The region of a length: what its operations leave. -/
def lenB (c : Nat) (a : Option Addr) (len cap : Nat) (w0 : World) (f : Nat → Bool) (w : World) : Prop :=
  Fr c a len cap w0 w ∧ ∃ u0 u1 u2 u3 u4 u5 u6, LBlk w w0.heap.size [u0, u1, u2, u3, u4, u5, u6] ∧ (f 8 = true → ∃ K N : Int, [u0, u1, u2, u3, u4, u5, u6] = [.int .i64 K, .int .i64 N, .int .i64 0, .int .i64 0, .int .i64 0, .int .i64 0, .string ⟨#[]⟩])

def three : List Value := [.int .i64 2, .int .i64 2, .int .i64 3]

def lenF (c r : Nat) (i : Nat) (v : Value) (w : World) : Prop := match i with
  | 0 => ∃ g, v = .slice (some ⟨g, 0, none⟩) 3 3 ∧ r < g ∧ LBlk w g three
  | 1 => v = .pointer (some ⟨c, 0, none⟩)
  | 2 => ∃ K : Nat, K < 3 ∧ v = .int .i64 (K : Int)
  | 3 => ∃ g K, K < 3 ∧ v = .pointer (some ⟨g, K, none⟩) ∧ r < g ∧ LBlk w g three
  | 4 => ∃ n : Int, v = .int .i64 n
  | 5 => v = .pointer (some ⟨c, 0, none⟩)
  | 6 => ∃ n : Int, v = .int .i64 n
  | 7 => ∃ K N : Int, v = .agg #[.int .i64 K, .int .i64 N, .int .i64 0, .int .i64 0, .int .i64 0, .int .i64 0, .string ⟨#[]⟩]
  | _ => True

def lenD (i : Nat) : Option Nat := match i with
  | 0 => some 36
  | 1 => some 37
  | 2 => some 38
  | 3 => some 39
  | 4 => some 40
  | 5 => some 41
  | 6 => some 42
  | 7 => some 43
  | _ => none

theorem lenF_keep {c r : Nat} {w w' : World} (hk : ∀ g, r < g → LBlk w g three → LBlk w' g three) (j : Nat) (v : Value) (hj : j < 9) (h : lenF c r j v w) : lenF c r j v w' := by
  have : j = 0 ∨ j = 1 ∨ j = 2 ∨ j = 3 ∨ j = 4 ∨ j = 5 ∨ j = 6 ∨ j = 7 ∨ j = 8 := by omega
  rcases this with rfl | rfl | rfl | rfl | rfl | rfl | rfl | rfl | rfl
  · obtain ⟨g, e, hg, ht⟩ := h; exact ⟨g, e, hg, hk g hg ht⟩
  · exact h
  · exact h
  · obtain ⟨g, K, hK, e, hg, ht⟩ := h; exact ⟨g, K, hK, e, hg, hk g hg ht⟩
  · exact h
  · exact h
  · exact h
  · exact h
  · exact h

set_option maxRecDepth 20000 in
set_option maxHeartbeats 4000000 in
theorem l8DrawValue_draw (w : World) (c : Nat) (a : Option Addr) (len cap : Nat) (l : Int) (h : Cur w c a len cap) :
    Calls Tryz.prog 35 #[.pointer (some ⟨c, 0, none⟩), .int .i64 l] w (DrawnV c a len cap w) := by
  have hF1 := (Fr.refl h).alloc (.cells #[.int .i64 0, .int .i64 0, .int .i64 0, .int .i64 0, .int .i64 0, .int .i64 0, .string ⟨#[]⟩] 29)
  have hr1 : LBlk (w.alloc (.cells #[.int .i64 0, .int .i64 0, .int .i64 0, .int .i64 0, .int .i64 0, .int .i64 0, .string ⟨#[]⟩] 29)) w.heap.size [.int .i64 0, .int .i64 0, .int .i64 0, .int .i64 0, .int .i64 0, .int .i64 0, .string ⟨#[]⟩] := LBlk.new w _ _
  have hrc : w.heap.size ≠ c := Nat.ne_of_gt h.lt
  have hcw := h.lt
  clear h
  by_cases h0 : l = 0
  · subst h0
    go_enter Tryz.func35, Tryz.ntmps35
    go_wp2_with fail
    generalize w.alloc (.cells #[.int .i64 0, .int .i64 0, .int .i64 0, .int .i64 0, .int .i64 0, .int .i64 0, .string ⟨#[]⟩] 29) = W at *
    refine (Below_draw _ c a len cap 1001 hF1.cur).mono ?_
    rintro e w2 ⟨n2, hn2, rfl, hc2, ho2⟩
    obtain ⟨K2, rfl, hK2⟩ := below_nat (m := 1001) hn2 (by omega)
    have hF2 := hF1.call hc2 ho2
    have hr2 := hr1.only ho2 hrc
    clear hF1 hr1 hc2 ho2 hn2
    obtain ⟨_, _, _, _, _, _, _, f0, f1, f2, f3, f4, f5, f6⟩ := seven_cells hr2
    go_wp2_with fail
    obtain ⟨p0, p1, p2, p3, p4, p5, p6, _⟩ := seven_cells (put7_blk hr2 (.int .i64 1) (.int .i64 (K2 : Int)) (.int .i64 0) (.int .i64 0) (.int .i64 0) (.int .i64 0) (.string ⟨#[]⟩))
    unfold put7 at p0 p1 p2 p3 p4 p5 p6
    have hFz := D6.fr_put7 hF2 (Nat.le_refl _) hrc (.int .i64 1) (.int .i64 (K2 : Int)) (.int .i64 0) (.int .i64 0) (.int .i64 0) (.int .i64 0) (.string ⟨#[]⟩)
    exact bodyPost_ret (v := valV ⟨1, (K2 : Int), 0, 0, 0, 0, []⟩) (by simp only [results, Tryz.results35]; simp [go_sem, p0, p1, p2, p3, p4, p5, p6, valV]) rfl ⟨⟨1, (K2 : Int), 0, 0, 0, 0, []⟩, rfl, by simp, hFz.cur, hFz.only⟩
  · by_cases h3 : l = 3
    · subst h3
      clear h0
      go_enter Tryz.func35, Tryz.ntmps35
      go_wp2_with fail
      generalize w.alloc (.cells #[.int .i64 0, .int .i64 0, .int .i64 0, .int .i64 0, .int .i64 0, .int .i64 0, .string ⟨#[]⟩] 29) = W at *
      refine (Below_draw _ c a len cap 256 hF1.cur).mono ?_
      rintro e w2 ⟨n2, hn2, rfl, hc2, ho2⟩
      obtain ⟨R, rfl, hK2⟩ := below_nat (m := 256) hn2 (by omega)
      have hF2 := hF1.call hc2 ho2
      have hr2 := hr1.only ho2 hrc
      clear hF1 hr1 hc2 ho2 hn2
      go_wp2_with fail
      refine (Below_draw _ c a len cap 256 hF2.cur).mono ?_
      rintro e w3 ⟨n3, hn3, rfl, hc3, ho3⟩
      obtain ⟨G, rfl, hK3⟩ := below_nat (m := 256) hn3 (by omega)
      have hF3 := hF2.call hc3 ho3
      have hr3 := hr2.only ho3 hrc
      clear hF2 hr2 hc3 ho3 hn3
      go_wp2_with fail
      refine (Below_draw _ c a len cap 256 hF3.cur).mono ?_
      rintro e w4 ⟨n4, hn4, rfl, hc4, ho4⟩
      obtain ⟨B, rfl, hK4⟩ := below_nat (m := 256) hn4 (by omega)
      have hF4 := hF3.call hc4 ho4
      have hr4 := hr3.only ho4 hrc
      clear hF3 hr3 hc4 ho4 hn4
      obtain ⟨_, _, _, _, _, _, _, f0, f1, f2, f3, f4, f5, f6⟩ := seven_cells hr4
      go_wp2_with fail
      obtain ⟨p0, p1, p2, p3, p4, p5, p6, _⟩ := seven_cells (put7_blk hr4 (.int .i64 4) (.int .i64 0) (.int .i64 (R : Int)) (.int .i64 (G : Int)) (.int .i64 (B : Int)) (.int .i64 255) (.string ⟨#[]⟩))
      unfold put7 at p0 p1 p2 p3 p4 p5 p6
      have hFz := D6.fr_put7 hF4 (Nat.le_refl _) hrc (.int .i64 4) (.int .i64 0) (.int .i64 (R : Int)) (.int .i64 (G : Int)) (.int .i64 (B : Int)) (.int .i64 255) (.string ⟨#[]⟩)
      exact bodyPost_ret (v := valV ⟨4, 0, (R : Int), (G : Int), (B : Int), 255, []⟩) (by simp only [results, Tryz.results35]; simp [go_sem, p0, p1, p2, p3, p4, p5, p6, valV]) rfl ⟨⟨4, 0, (R : Int), (G : Int), (B : Int), 255, []⟩, rfl, by simp, hFz.cur, hFz.only⟩
    · by_cases h4 : l = 4
      · subst h4
        clear h0 h3
        go_enter Tryz.func35, Tryz.ntmps35
        go_wp2_with fail
        have hsz : (w.alloc (.cells #[.int .i64 0, .int .i64 0, .int .i64 0, .int .i64 0, .int .i64 0, .int .i64 0, .string ⟨#[]⟩] 29)).heap.size = w.heap.size + 1 := by simp
        generalize w.alloc (.cells #[.int .i64 0, .int .i64 0, .int .i64 0, .int .i64 0, .int .i64 0, .int .i64 0, .string ⟨#[]⟩] 29) = W at *
        refine (Below_draw _ c a len cap 2 (hF1.alloc _).cur).mono ?_
        rintro e w2 ⟨n2, hn2, rfl, hc2, ho2⟩
        obtain ⟨K2, rfl, hK2⟩ := below_nat (m := 2) hn2 (by omega)
        have hF2 := (hF1.alloc _).call hc2 ho2
        have hr2 := (hr1.alloc _).only ho2 hrc
        obtain ⟨t, ht, htl⟩ := shows2_at hK2
        have hL := (LBlk.new _ (shows2.map fun t => Value.string ⟨t.toArray⟩) 9).only ho2 (Nat.ne_of_gt hF1.cur.lt)
        have hcell := (hL.2 K2 (.string ⟨t.toArray⟩) (by rw [List.getElem?_map, ht]; rfl)).1
        rw [hsz] at hcell
        have hK' : (K2 : Int) < 2 := by omega
        have hK0 : (0 : Int) ≤ (K2 : Int) := by omega
        obtain ⟨_, _, _, _, _, _, _, f0, f1, f2, f3, f4, f5, f6⟩ := seven_cells hr2
        clear hL ht hF1 hr1 hc2 ho2 hn2
        go_wp2_with fail
        obtain ⟨p0, p1, p2, p3, p4, p5, p6, _⟩ := seven_cells (put7_blk hr2 (.int .i64 5) (.int .i64 0) (.int .i64 0) (.int .i64 0) (.int .i64 0) (.int .i64 0) (.string ⟨t.toArray⟩))
        unfold put7 at p0 p1 p2 p3 p4 p5 p6
        have hFz := D6.fr_put7 hF2 (Nat.le_refl _) hrc (.int .i64 5) (.int .i64 0) (.int .i64 0) (.int .i64 0) (.int .i64 0) (.int .i64 0) (.string ⟨t.toArray⟩)
        exact bodyPost_ret (v := valV ⟨5, 0, 0, 0, 0, 0, t⟩) (by simp only [results, Tryz.results35]; simp [go_sem, p0, p1, p2, p3, p4, p5, p6, valV]) rfl ⟨⟨5, 0, 0, 0, 0, 0, t⟩, rfl, by show t.length ≤ 100; omega, hFz.cur, hFz.only⟩
      · by_cases h5 : l = 5
        · subst h5
          clear h0 h3 h4
          go_enter Tryz.func35, Tryz.ntmps35
          go_wp2_with fail
          have hsz : (w.alloc (.cells #[.int .i64 0, .int .i64 0, .int .i64 0, .int .i64 0, .int .i64 0, .int .i64 0, .string ⟨#[]⟩] 29)).heap.size = w.heap.size + 1 := by simp
          generalize w.alloc (.cells #[.int .i64 0, .int .i64 0, .int .i64 0, .int .i64 0, .int .i64 0, .int .i64 0, .string ⟨#[]⟩] 29) = W at *
          refine (Below_draw _ c a len cap 3 (hF1.alloc _).cur).mono ?_
          rintro e w2 ⟨n2, hn2, rfl, hc2, ho2⟩
          obtain ⟨K2, rfl, hK2⟩ := below_nat (m := 3) hn2 (by omega)
          have hF2 := (hF1.alloc _).call hc2 ho2
          have hr2 := (hr1.alloc _).only ho2 hrc
          obtain ⟨t, ht, htl⟩ := forms3_at hK2
          have hL := (LBlk.new _ (forms3.map fun t => Value.string ⟨t.toArray⟩) 9).only ho2 (Nat.ne_of_gt hF1.cur.lt)
          have hcell := (hL.2 K2 (.string ⟨t.toArray⟩) (by rw [List.getElem?_map, ht]; rfl)).1
          rw [hsz] at hcell
          have hK' : (K2 : Int) < 3 := by omega
          have hK0 : (0 : Int) ≤ (K2 : Int) := by omega
          obtain ⟨_, _, _, _, _, _, _, f0, f1, f2, f3, f4, f5, f6⟩ := seven_cells hr2
          clear hL ht hF1 hr1 hc2 ho2 hn2
          go_wp2_with fail
          obtain ⟨p0, p1, p2, p3, p4, p5, p6, _⟩ := seven_cells (put7_blk hr2 (.int .i64 5) (.int .i64 0) (.int .i64 0) (.int .i64 0) (.int .i64 0) (.int .i64 0) (.string ⟨t.toArray⟩))
          unfold put7 at p0 p1 p2 p3 p4 p5 p6
          have hFz := D6.fr_put7 hF2 (Nat.le_refl _) hrc (.int .i64 5) (.int .i64 0) (.int .i64 0) (.int .i64 0) (.int .i64 0) (.int .i64 0) (.string ⟨t.toArray⟩)
          exact bodyPost_ret (v := valV ⟨5, 0, 0, 0, 0, 0, t⟩) (by simp only [results, Tryz.results35]; simp [go_sem, p0, p1, p2, p3, p4, p5, p6, valV]) rfl ⟨⟨5, 0, 0, 0, 0, 0, t⟩, rfl, by show t.length ≤ 100; omega, hFz.cur, hFz.only⟩
        · have e0 : (l == 0) = false := by simpa using h0
          have e3 : (l == 3) = false := by simpa using h3
          have e4 : (l == 4) = false := by simpa using h4
          have e5 : (l == 5) = false := by simpa using h5
          clear h0 h3 h4 h5
          go_enter Tryz.func35, Tryz.ntmps35
          go_wp2_with fail
          generalize w.alloc (.cells #[.int .i64 0, .int .i64 0, .int .i64 0, .int .i64 0, .int .i64 0, .int .i64 0, .string ⟨#[]⟩] 29) = W at *
          refine region_inv (by kernel_rfl) (Inv 9 44 lenD [(0, .pointer (some ⟨c, 0, none⟩)), (4, .pointer (some ⟨w.heap.size, 0, none⟩))] (lenB c a len cap w) (lenF c w.heap.size)) ?_ ?_ ?_
          · refine Inv.start rfl rfl ?_ ⟨hF1.drew, _, _, _, _, _, _, _, hr1, fun h => by cases h⟩
            simp
          · clear hF1 hr1
            intro L A W hL hJ i hi
            have hi9 : i < 9 := by
              unfold Region.ready at hi
              rw [List.mem_filter] at hi
              simpa using hi.1
            have s0 := hJ.ks (0, .pointer (some ⟨c, 0, none⟩)) (by simp)
            have s4 := hJ.ks (4, .pointer (some ⟨w.heap.size, 0, none⟩)) (by simp)
            obtain ⟨hFr, u0, u1, u2, u3, u4, u5, u6, hr, her⟩ := hJ.bs
            have hok : okI 9 44 lenD [0, 4] = true := by decide
            have hcase : i = 0 ∨ i = 1 ∨ i = 2 ∨ i = 3 ∨ i = 4 ∨ i = 5 ∨ i = 6 ∨ i = 7 ∨ i = 8 := by omega
            rcases hcase with rfl | rfl | rfl | rfl | rfl | rfl | rfl | rfl | rfl
            · refine wpOp_of rfl rfl (wp_value (v := .slice (some ⟨W.heap.size, 0, none⟩) 3 3) (W' := W.alloc (.cells three.toArray 2)) ?_ (Inv.step hok hJ hL (i := 0) (by decide) _ rfl ⟨hFr.alloc _, _, _, _, _, _, _, _, hr.alloc _, her⟩ (lenF_keep fun g hg ht => ht.alloc _) ⟨W.heap.size, rfl, hr.1, LBlk.new W _ _⟩))
              unfold three
              go_simp
            · refine wpOp_of rfl rfl (wp_value (v := .pointer (some ⟨c, 0, none⟩)) (W' := W) ?_ (Inv.step hok hJ hL (i := 1) (by decide) _ rfl ⟨hFr, _, _, _, _, _, _, _, hr, her⟩ (fun _ _ _ h => h) rfl))
              simp [execOp, Act.eval, s0, go_sem]
            · obtain ⟨hnot, hdep⟩ := ready_of hL rfl hi
              have l1 : L[1]?.getD false = true := hdep ⟨1, .data⟩ (by simp) rfl
              have hs : A.tmps[37]?.getD undef = .pointer (some ⟨c, 0, none⟩) := hJ.fs 1 (by decide) 37 rfl l1
              refine wpOp_of rfl rfl (wp_enter (f := 28) (args := #[.pointer (some ⟨c, 0, none⟩), .int .i64 3]) ?_ ?_)
              · simp [execOp, Act.eval, hs, go_sem]
              · refine (Below_draw _ _ a len cap 3 hFr.cur).mono ?_
                rintro e w4 ⟨n, hn, rfl, hc4, ho4⟩
                obtain ⟨K, rfl, hK⟩ := below_nat (m := 3) hn (by omega)
                exact ⟨_, rfl, Inv.step hok hJ hL (i := 2) (by decide) _ rfl ⟨hFr.call hc4 ho4, _, _, _, _, _, _, _, hr.only ho4 hrc, her⟩ (lenF_keep fun g hg ht => ht.only ho4 (by omega)) ⟨K, hK, rfl⟩⟩
            · obtain ⟨hnot, hdep⟩ := ready_of hL rfl hi
              have l0 : L[0]?.getD false = true := hdep ⟨0, .data⟩ (by simp) rfl
              have l2 : L[2]?.getD false = true := hdep ⟨2, .data⟩ (by simp) rfl
              obtain ⟨g, es, hg, ht⟩ := hJ.fs 0 (by decide) 36 rfl l0
              obtain ⟨K, hK, ek⟩ := hJ.fs 2 (by decide) 38 rfl l2
              have hK0 : (0 : Int) ≤ (K : Int) := by omega
              have hK2 : (K : Int) < 3 := by omega
              refine wpOp_of rfl rfl (wp_value (v := .pointer (some ⟨g, K, none⟩)) (W' := W) ?_ (Inv.step hok hJ hL (i := 3) (by decide) _ rfl ⟨hFr, _, _, _, _, _, _, _, hr, her⟩ (fun _ _ _ h => h) ⟨g, K, hK, rfl, hg, ht⟩))
              simp [execOp, Act.eval, es, ek]
              go_simp
            · obtain ⟨hnot, hdep⟩ := ready_of hL rfl hi
              have l3 : L[3]?.getD false = true := hdep ⟨3, .data⟩ (by simp) rfl
              obtain ⟨g, K, hK, ep, hg, ht⟩ := hJ.fs 3 (by decide) 39 rfl l3
              obtain ⟨n, hcell⟩ : ∃ n : Int, W.cell? ⟨g, K, none⟩ = some (.int .i64 n) := by
                have : K = 0 ∨ K = 1 ∨ K = 2 := by omega
                rcases this with rfl | rfl | rfl
                · exact ⟨_, (ht.2 0 _ rfl).1⟩
                · exact ⟨_, (ht.2 1 _ rfl).1⟩
                · exact ⟨_, (ht.2 2 _ rfl).1⟩
              refine wpOp_of rfl rfl (wp_value (v := .int .i64 n) (W' := W) ?_ (Inv.step hok hJ hL (i := 4) (by decide) _ rfl ⟨hFr, _, _, _, _, _, _, _, hr, her⟩ (fun _ _ _ h => h) ⟨n, rfl⟩))
              simp [execOp, Act.eval, ep]
              go_simp
            · refine wpOp_of rfl rfl (wp_value (v := .pointer (some ⟨c, 0, none⟩)) (W' := W) ?_ (Inv.step hok hJ hL (i := 5) (by decide) _ rfl ⟨hFr, _, _, _, _, _, _, _, hr, her⟩ (fun _ _ _ h => h) rfl))
              simp [execOp, Act.eval, s0, go_sem]
            · obtain ⟨hnot, hdep⟩ := ready_of hL rfl hi
              have l1 : L[5]?.getD false = true := hdep ⟨5, .data⟩ (by simp) rfl
              have hs : A.tmps[41]?.getD undef = .pointer (some ⟨c, 0, none⟩) := hJ.fs 5 (by decide) 41 rfl l1
              refine wpOp_of rfl rfl (wp_enter (f := 28) (args := #[.pointer (some ⟨c, 0, none⟩), .int .i64 200]) ?_ ?_)
              · simp [execOp, Act.eval, hs, go_sem]
              · refine (Below_draw _ _ a len cap 200 hFr.cur).mono ?_
                rintro e w4 ⟨n, hn, rfl, hc4, ho4⟩
                exact ⟨_, rfl, Inv.step hok hJ hL (i := 6) (by decide) _ rfl ⟨hFr.call hc4 ho4, _, _, _, _, _, _, _, hr.only ho4 hrc, her⟩ (lenF_keep fun g hg ht => ht.only ho4 (by omega)) ⟨n, rfl⟩⟩
            · obtain ⟨hnot, hdep⟩ := ready_of hL rfl hi
              have l4 : L[4]?.getD false = true := hdep ⟨4, .data⟩ (by simp) rfl
              have l6 : L[6]?.getD false = true := hdep ⟨6, .data⟩ (by simp) rfl
              obtain ⟨K, ek⟩ := hJ.fs 4 (by decide) 40 rfl l4
              obtain ⟨N, en⟩ := hJ.fs 6 (by decide) 42 rfl l6
              refine wpOp_of rfl rfl (wp_value (v := .agg #[.int .i64 K, .int .i64 N, .int .i64 0, .int .i64 0, .int .i64 0, .int .i64 0, .string ⟨#[]⟩]) (W' := W) ?_ (Inv.step hok hJ hL (i := 7) (by decide) _ rfl ⟨hFr, _, _, _, _, _, _, _, hr, her⟩ (fun _ _ _ h => h) ⟨K, N, rfl⟩))
              simp [execOp, Act.eval, ek, en]
              go_simp
            · obtain ⟨hnot, hdep⟩ := ready_of hL rfl hi
              have l7 : L[7]?.getD false = true := hdep ⟨7, .data⟩ (by simp) rfl
              obtain ⟨K, N, hs⟩ := hJ.fs 7 (by decide) 43 rfl l7
              refine wpOp_of rfl rfl (wp_stored (W' := put7 W w.heap.size (.int .i64 K) (.int .i64 N) (.int .i64 0) (.int .i64 0) (.int .i64 0) (.int .i64 0) (.string ⟨#[]⟩)) ?_ (Inv.step hok hJ hL (i := 8) (v := undef) (by decide) none rfl ⟨D6.fr_put7 hFr (Nat.le_refl _) hrc _ _ _ _ _ _ _, _, _, _, _, _, _, _, put7_blk hr _ _ _ _ _ _ _, fun _ => ⟨K, N, rfl⟩⟩ (lenF_keep fun g hg ht => put7_other ht (by omega) _ _ _ _ _ _ _) trivial))
              obtain ⟨c0, c1, c2, c3, c4, c5, c6, f0, f1, f2, f3, f4, f5, f6⟩ := seven_cells hr
              simp [execOp, Act.eval, s4, hs, go_sem, put7, c0, c1, c2, c3, c4, c5, c6, f0, f1, f2, f3, f4, f5, f6]
          · intro L A W hL hJ hr
            have hd := ready_all (by kernel_rfl) hL hr
            have s4 := hJ.ks (4, .pointer (some ⟨w.heap.size, 0, none⟩)) (by simp)
            obtain ⟨hFr, u0, u1, u2, u3, u4, u5, u6, hb, her⟩ := hJ.bs
            obtain ⟨K, N, he⟩ := her (hd 8 (by decide))
            rw [he] at hb
            obtain ⟨p0, p1, p2, p3, p4, p5, p6, _⟩ := seven_cells hb
            have hdf := hJ.df
            go_wp2_with fail
            exact bodyPost_ret (v := valV ⟨K, N, 0, 0, 0, 0, []⟩) (by simp only [results, Tryz.results35]; simp [go_sem, s4, p0, p1, p2, p3, p4, p5, p6, valV]) hdf ⟨⟨K, N, 0, 0, 0, 0, []⟩, rfl, by simp, hFr.cur, hFr.only⟩

theorem NameOf_draw (w : World) (a : Option Addr) (len cap : Nat) (h : Bytes w w.heap.size a len) :
    Calls Tryz.prog 7 #[.slice a len cap] w (Given InLook w) := by
  go_enter Tryz.func7, Tryz.ntmps7
  go_wp2_with fail
  refine (New_draw _ a len cap h).mono ?_
  rintro e w1 ⟨rfl, hc1, ho1⟩
  go_wp2_with fail
  refine (l8Draw_draw _ _ a len cap hc1).mono ?_
  rintro e w2 ⟨x, hx, rfl, hc2, ho2⟩
  go_wp2
  go_ret
  exact ⟨x, hx, rfl, (ho1.trans ho2).below (Nat.le_refl _) (Nat.le_refl _)⟩

theorem AtFirst_draw (w : World) (a : Option Addr) (len cap : Nat) (h : Bytes w w.heap.size a len) :
    Calls Tryz.prog 11 #[.slice a len cap] w (Given InLook w) := by
  go_enter Tryz.func11, Tryz.ntmps11
  go_wp2_with fail
  refine (NameOf_draw _ a len cap h).mono ?_
  rintro e w2 ⟨x, hx, rfl, ho2⟩
  go_wp2
  go_ret
  exact ⟨x, hx, rfl, ho2⟩

theorem HandedDown_draw (w : World) (a : Option Addr) (len cap : Nat) (h : Bytes w w.heap.size a len) :
    Calls Tryz.prog 12 #[.slice a len cap] w (Given InLook w) := by
  go_enter Tryz.func12, Tryz.ntmps12
  go_wp2_with fail
  refine (NameOf_draw _ a len cap h).mono ?_
  rintro e w2 ⟨x, hx, rfl, ho2⟩
  go_wp2
  go_ret
  exact ⟨x, hx, rfl, ho2⟩

def looks9 : List (List UInt8) := [[99, 108, 101, 97, 114], [119, 105, 100, 101], [108, 101, 102, 116], [99, 111, 108, 111, 114], [115, 104, 111, 119], [102, 111, 114, 109], [], [87, 105, 100, 101], [119, 104, 97, 116]]

theorem looks9_at {k : Nat} (h : k < 9) : ∃ t, looks9[k]? = some t ∧ t.length ≤ 10 := by
  have : k = 0 ∨ k = 1 ∨ k = 2 ∨ k = 3 ∨ k = 4 ∨ k = 5 ∨ k = 6 ∨ k = 7 ∨ k = 8 := by omega
  rcases this with rfl | rfl | rfl | rfl | rfl | rfl | rfl | rfl | rfl <;> exact ⟨_, rfl, by decide⟩

/-- A short text that a draw from the bytes answers. -/
def GivenS (n : Nat) (w : World) (e : Ending) (w' : World) : Prop := ∃ t : List UInt8, e = .returned (.string ⟨t.toArray⟩) ∧ t.length ≤ n ∧ Below w.heap.size w w'

set_option maxRecDepth 20000 in
set_option maxHeartbeats 2000000 in
theorem LookOf_draw (w : World) (a : Option Addr) (len cap : Nat) (h : Bytes w w.heap.size a len) :
    Calls Tryz.prog 6 #[.slice a len cap] w (GivenS 10 w) := by
  go_enter Tryz.func6, Tryz.ntmps6
  go_wp2_with fail
  refine (New_draw _ a len cap h).mono ?_
  rintro e w1 ⟨rfl, hc1, ho1⟩
  go_wp2_with fail
  refine (Below_draw _ _ a len cap 9 (hc1.alloc _)).mono ?_
  rintro e w2 ⟨n2, hn2, rfl, hc2, ho2⟩
  obtain ⟨K2, rfl, hK2⟩ := below_nat (m := 9) hn2 (by omega)
  obtain ⟨t, ht, htl⟩ := looks9_at hK2
  have hL := (LBlk.new w1 (looks9.map fun t => Value.string ⟨t.toArray⟩) 9).only ho2 (Nat.ne_of_gt hc1.lt)
  have hcell := (hL.2 K2 (.string ⟨t.toArray⟩) (by rw [List.getElem?_map, ht]; rfl)).1
  have hK' : (K2 : Int) < 9 := by omega
  have hK0 : (0 : Int) ≤ (K2 : Int) := by omega
  have hk := (ho1.trans (only_new w1 _ w.heap.size)).trans ho2
  clear hL ht hn2
  go_wp2_with fail
  go_ret
  exact ⟨t, rfl, htl, hk.below (Nat.le_refl _) (Nat.le_refl _)⟩

/-- A look and a value that a draw from the bytes answers. -/
def GivenLV (w : World) (e : Ending) (w' : World) : Prop := ∃ (l : Int) (x : Va), e = .returned (.tuple #[.int .i64 l, valV x]) ∧ InLook l ∧ x.w.length ≤ 100 ∧ Below w.heap.size w w'

set_option maxRecDepth 20000 in
set_option maxHeartbeats 4000000 in
theorem Fits_draw (w : World) (a : Option Addr) (len cap : Nat) (h : Bytes w w.heap.size a len) :
    Calls Tryz.prog 10 #[.slice a len cap] w (GivenLV w) := by
  go_enter Tryz.func10, Tryz.ntmps10
  go_wp2_with fail
  have hB0 : Below w.heap.size w (w.alloc (.cells #[.int .i64 0, .int .i64 0, .int .i64 0, .int .i64 0, .int .i64 0, .int .i64 0, .string ⟨#[]⟩] 29)) := (Below.refl _ _).alloc (Nat.le_refl _) _
  have hR0 : LBlk (w.alloc (.cells #[.int .i64 0, .int .i64 0, .int .i64 0, .int .i64 0, .int .i64 0, .int .i64 0, .string ⟨#[]⟩] 29)) w.heap.size [.int .i64 0, .int .i64 0, .int .i64 0, .int .i64 0, .int .i64 0, .int .i64 0, .string ⟨#[]⟩] := LBlk.new w [.int .i64 0, .int .i64 0, .int .i64 0, .int .i64 0, .int .i64 0, .int .i64 0, .string ⟨#[]⟩] 29
  have hsz : (w.alloc (.cells #[.int .i64 0, .int .i64 0, .int .i64 0, .int .i64 0, .int .i64 0, .int .i64 0, .string ⟨#[]⟩] 29)).heap.size = w.heap.size + 1 := by simp
  have h0 := h.below hB0
  generalize (w.alloc (.cells #[.int .i64 0, .int .i64 0, .int .i64 0, .int .i64 0, .int .i64 0, .int .i64 0, .string ⟨#[]⟩] 29)) = W0 at *
  refine (New_draw _ a len cap h0).mono ?_
  rintro e w1 ⟨rfl, hc1, ho1⟩
  rw [hsz] at hc1 ho1 ⊢
  have hby : Bytes w (w.heap.size + 1) a len := ⟨h.1, fun i hi => by
    obtain ⟨b, off, n, q1, q2, q3, q4⟩ := h.2 i hi
    exact ⟨b, off, n, q1, q2, by omega, q4⟩⟩
  have hF1 : Fr (w.heap.size + 1) a len cap w w1 := ⟨hc1, ⟨ho1.os.trans hB0.os, ho1.tape.trans hB0.tape, ho1.output.trans hB0.output, Nat.le_trans hB0.size ho1.size, fun k hk hs => (ho1.block k hk (by omega)).trans (hB0.block k hs)⟩, hby⟩
  have hR1 := hR0.only ho1 (by omega)
  clear ho1 h h0 hc1 hR0 hby hB0 hsz
  go_wp2_with fail
  refine (l8Draw_draw _ (w.heap.size + 1) a len cap hF1.cur).mono ?_
  rintro e w2 ⟨l, hl, rfl, hc2, ho2⟩
  have hF2 := hF1.call hc2 ho2
  have hR2 := hR1.only ho2 (by omega)
  clear hF1 hR1 hc2 ho2
  go_wp2_with fail
  refine (Once_draw _ (w.heap.size + 1) a len cap 2 hF2.cur).mono ?_
  rintro e w3 ⟨qq, rfl, hc3, ho3⟩
  have hF3 := hF2.call hc3 ho3
  have hR3 := hR2.only ho3 (by omega)
  clear hF2 hR2 hc3 ho3
  cases qq
  · skip
    go_wp2_with fail
    refine (l6DrawAny_draw _ (w.heap.size + 1) a len cap hF3.cur).mono ?_
    rintro e w4 ⟨⟨xk, xn, xr, xg, xb, xc, xt⟩, rfl, hxt, hc4, ho4⟩
    have hF4 := hF3.call hc4 ho4
    have hR4 := hR3.only ho4 (by omega)
    obtain ⟨_, _, _, _, _, _, _, f0, f1, f2, f3, f4, f5, f6⟩ := seven_cells hR4
    unfold valV
    go_wp2_with fail
    obtain ⟨p0, p1, p2, p3, p4, p5, p6, _⟩ := seven_cells (put7_blk hR4 (.int .i64 xk) (.int .i64 xn) (.int .i64 xr) (.int .i64 xg) (.int .i64 xb) (.int .i64 xc) (.string ⟨xt.toArray⟩))
    unfold put7 at p0 p1 p2 p3 p4 p5 p6
    have hFz := D6.fr_put7 hF4 (b := w.heap.size) (Nat.le_refl _) (by omega) (.int .i64 xk) (.int .i64 xn) (.int .i64 xr) (.int .i64 xg) (.int .i64 xb) (.int .i64 xc) (.string ⟨xt.toArray⟩)
    exact bodyPost_ret (v := .tuple #[.int .i64 l, valV ⟨xk, xn, xr, xg, xb, xc, xt⟩]) (by simp only [results, Tryz.results10]; simp [go_sem, p0, p1, p2, p3, p4, p5, p6, valV]) rfl ⟨l, _, rfl, hl, hxt, hFz.only.below (by omega) (Nat.le_refl _)⟩
  · skip
    go_wp2_with fail
    refine (l8DrawValue_draw _ (w.heap.size + 1) a len cap l hF3.cur).mono ?_
    rintro e w4 ⟨⟨xk, xn, xr, xg, xb, xc, xt⟩, rfl, hxt, hc4, ho4⟩
    have hF4 := hF3.call hc4 ho4
    have hR4 := hR3.only ho4 (by omega)
    obtain ⟨_, _, _, _, _, _, _, f0, f1, f2, f3, f4, f5, f6⟩ := seven_cells hR4
    unfold valV
    go_wp2_with fail
    obtain ⟨p0, p1, p2, p3, p4, p5, p6, _⟩ := seven_cells (put7_blk hR4 (.int .i64 xk) (.int .i64 xn) (.int .i64 xr) (.int .i64 xg) (.int .i64 xb) (.int .i64 xc) (.string ⟨xt.toArray⟩))
    unfold put7 at p0 p1 p2 p3 p4 p5 p6
    have hFz := D6.fr_put7 hF4 (b := w.heap.size) (Nat.le_refl _) (by omega) (.int .i64 xk) (.int .i64 xn) (.int .i64 xr) (.int .i64 xg) (.int .i64 xb) (.int .i64 xc) (.string ⟨xt.toArray⟩)
    exact bodyPost_ret (v := .tuple #[.int .i64 l, valV ⟨xk, xn, xr, xg, xb, xc, xt⟩]) (by simp only [results, Tryz.results10]; simp [go_sem, p0, p1, p2, p3, p4, p5, p6, valV]) rfl ⟨l, _, rfl, hl, hxt, hFz.only.below (by omega) (Nat.le_refl _)⟩

set_option maxRecDepth 20000 in
set_option maxHeartbeats 4000000 in
theorem Kept_draw (w : World) (a : Option Addr) (len cap : Nat) (h : Bytes w w.heap.size a len) :
    Calls Tryz.prog 22 #[.slice a len cap] w (GivenLV w) := by
  go_enter Tryz.func22, Tryz.ntmps22
  go_wp2_with fail
  have hB0 : Below w.heap.size w (w.alloc (.cells #[.int .i64 0, .int .i64 0, .int .i64 0, .int .i64 0, .int .i64 0, .int .i64 0, .string ⟨#[]⟩] 29)) := (Below.refl _ _).alloc (Nat.le_refl _) _
  have hR0 : LBlk (w.alloc (.cells #[.int .i64 0, .int .i64 0, .int .i64 0, .int .i64 0, .int .i64 0, .int .i64 0, .string ⟨#[]⟩] 29)) w.heap.size [.int .i64 0, .int .i64 0, .int .i64 0, .int .i64 0, .int .i64 0, .int .i64 0, .string ⟨#[]⟩] := LBlk.new w [.int .i64 0, .int .i64 0, .int .i64 0, .int .i64 0, .int .i64 0, .int .i64 0, .string ⟨#[]⟩] 29
  have hsz : (w.alloc (.cells #[.int .i64 0, .int .i64 0, .int .i64 0, .int .i64 0, .int .i64 0, .int .i64 0, .string ⟨#[]⟩] 29)).heap.size = w.heap.size + 1 := by simp
  have h0 := h.below hB0
  generalize (w.alloc (.cells #[.int .i64 0, .int .i64 0, .int .i64 0, .int .i64 0, .int .i64 0, .int .i64 0, .string ⟨#[]⟩] 29)) = W0 at *
  refine (New_draw _ a len cap h0).mono ?_
  rintro e w1 ⟨rfl, hc1, ho1⟩
  rw [hsz] at hc1 ho1 ⊢
  have hby : Bytes w (w.heap.size + 1) a len := ⟨h.1, fun i hi => by
    obtain ⟨b, off, n, q1, q2, q3, q4⟩ := h.2 i hi
    exact ⟨b, off, n, q1, q2, by omega, q4⟩⟩
  have hF1 : Fr (w.heap.size + 1) a len cap w w1 := ⟨hc1, ⟨ho1.os.trans hB0.os, ho1.tape.trans hB0.tape, ho1.output.trans hB0.output, Nat.le_trans hB0.size ho1.size, fun k hk hs => (ho1.block k hk (by omega)).trans (hB0.block k hs)⟩, hby⟩
  have hR1 := hR0.only ho1 (by omega)
  clear ho1 h h0 hc1 hR0 hby hB0 hsz
  go_wp2_with fail
  refine (l8Draw_draw _ (w.heap.size + 1) a len cap hF1.cur).mono ?_
  rintro e w2 ⟨l, hl, rfl, hc2, ho2⟩
  have hF2 := hF1.call hc2 ho2
  have hR2 := hR1.only ho2 (by omega)
  clear hF1 hR1 hc2 ho2
  go_wp2_with fail
  refine (l6DrawAny_draw _ (w.heap.size + 1) a len cap hF2.cur).mono ?_
  rintro e w3 ⟨⟨xk, xn, xr, xg, xb, xc, xt⟩, rfl, hxt, hc3, ho3⟩
  have hF3 := (hF2.call hc3 ho3).alloc (.cells #[.int .i64 xk, .int .i64 xn, .int .i64 xr, .int .i64 xg, .int .i64 xb, .int .i64 xc, .string ⟨xt.toArray⟩] 29)
  have hR3 := (hR2.only ho3 (by omega)).alloc (.cells #[.int .i64 xk, .int .i64 xn, .int .i64 xr, .int .i64 xg, .int .i64 xb, .int .i64 xc, .string ⟨xt.toArray⟩] 29)
  have hV3 : LBlk (w3.alloc (.cells #[.int .i64 xk, .int .i64 xn, .int .i64 xr, .int .i64 xg, .int .i64 xb, .int .i64 xc, .string ⟨xt.toArray⟩] 29)) w3.heap.size [.int .i64 xk, .int .i64 xn, .int .i64 xr, .int .i64 xg, .int .i64 xb, .int .i64 xc, .string ⟨xt.toArray⟩] := LBlk.new w3 _ _
  have hlt := (hF2.call hc3 ho3).cur.lt
  dsimp only at hxt
  clear hF2 hR2 hc3 ho3
  unfold valV
  go_wp2_with fail
  refine (Once_draw _ (w.heap.size + 1) a len cap 2 hF3.cur).mono ?_
  rintro e w4 ⟨qq, rfl, hc4, ho4⟩
  have hF4 := hF3.call hc4 ho4
  have hR4 := hR3.only ho4 (by omega)
  have hV4 := hV3.only ho4 (by omega)
  obtain ⟨bv, ebv⟩ : ∃ bv, w3.heap.size = bv := ⟨_, rfl⟩
  rw [ebv] at hlt hV4 ⊢
  clear hF3 hR3 hV3 hc4 ho4 ebv
  cases qq
  · obtain ⟨d0, d1, d2, d3, d4, d5, d6, _⟩ := seven_cells hV4
    obtain ⟨_, _, _, _, _, _, _, f0, f1, f2, f3, f4, f5, f6⟩ := seven_cells hR4
    go_upto_region 7 with (fail)
    go_region
    obtain ⟨p0, p1, p2, p3, p4, p5, p6, _⟩ := seven_cells (put7_blk hR4 (.int .i64 xk) (.int .i64 (xn)) (.int .i64 xr) (.int .i64 xg) (.int .i64 xb) (.int .i64 xc) (.string ⟨xt.toArray⟩))
    unfold put7 at p0 p1 p2 p3 p4 p5 p6
    have hFz := (D6.fr_put7 hF4 (b := w.heap.size) (Nat.le_refl _) (by omega) (.int .i64 xk) (.int .i64 (xn)) (.int .i64 xr) (.int .i64 xg) (.int .i64 xb) (.int .i64 xc) (.string ⟨xt.toArray⟩)).drew
    go_wp2_with fail
    exact bodyPost_ret (v := .tuple #[.int .i64 l, valV ⟨xk, xn, xr, xg, xb, xc, xt⟩]) (by simp only [results, Tryz.results22]; simp [go_sem, p0, p1, p2, p3, p4, p5, p6, valV]) rfl ⟨l, _, rfl, hl, hxt, hFz.only.below (by omega) (Nat.le_refl _)⟩
  · go_wp2_with fail
    refine (l8DrawValue_draw _ (w.heap.size + 1) a len cap l hF4.cur).mono ?_
    rintro e w5 ⟨⟨yk, yn, yr, yg, yb, yc, yt⟩, rfl, hyt, hc5, ho5⟩
    have hF5 := hF4.call hc5 ho5
    have hR5 := hR4.only ho5 (by omega)
    have hV5 := hV4.only ho5 (by omega)
    dsimp only at hyt
    obtain ⟨_, _, _, _, _, _, _, f0, f1, f2, f3, f4, f5, f6⟩ := seven_cells hV5
    clear hF4 hR4 hV4 hc5 ho5
    unfold valV
    go_wp2_with fail
    have hF6 := D6.fr_put7 hF5 (b := bv) (by omega) (by omega) (.int .i64 yk) (.int .i64 (yn)) (.int .i64 yr) (.int .i64 yg) (.int .i64 yb) (.int .i64 yc) (.string ⟨yt.toArray⟩)
    have hR6 := put7_other hR5 (b := bv) (by omega) (.int .i64 yk) (.int .i64 (yn)) (.int .i64 yr) (.int .i64 yg) (.int .i64 yb) (.int .i64 yc) (.string ⟨yt.toArray⟩)
    have hV6 := put7_blk hV5 (.int .i64 yk) (.int .i64 (yn)) (.int .i64 yr) (.int .i64 yg) (.int .i64 yb) (.int .i64 yc) (.string ⟨yt.toArray⟩)
    unfold put7 at hF6 hR6 hV6
    clear hF5 hR5 hV5 f0 f1 f2 f3 f4 f5 f6
    refine (Below_draw _ (w.heap.size + 1) a len cap 3000 hF6.cur).mono ?_
    rintro e w7 ⟨n7, hn7, rfl, hc7, ho7⟩
    obtain ⟨K7, rfl, hK7⟩ := below_nat (m := 3000) hn7 (by omega)
    have hF7 := hF6.call hc7 ho7
    have hR7 := hR6.only ho7 (by omega)
    have hV7 := hV6.only ho7 (by omega)
    have hKw : IntKind.i64.wrap ((K7 : Int) - 1000) = (K7 : Int) - 1000 := by rw [IntKind.wrap_i64]; omega
    obtain ⟨_, _, _, _, _, _, _, _, z1, _⟩ := seven_cells hV7
    have hF8 := hF7.set (b := bv) (by omega) (by omega) 1 (.int .i64 ((K7 : Int) - 1000))
    have hR8 := hR7.set_other (show w.heap.size ≠ bv by omega) 1 (.int .i64 ((K7 : Int) - 1000))
    have hV8 := hV7.set 1 (.int .i64 ((K7 : Int) - 1000)) (by simp)
    simp only [List.set_cons_succ, List.set_cons_zero] at hV8
    obtain ⟨d0, d1, d2, d3, d4, d5, d6, _⟩ := seven_cells hV8
    obtain ⟨_, _, _, _, _, _, _, f0, f1, f2, f3, f4, f5, f6⟩ := seven_cells hR8
    clear hF6 hR6 hV6 hc7 ho7 hn7 hF7 hR7 hV7 hV8
    go_upto_region 7 with (fail)
    go_region
    obtain ⟨p0, p1, p2, p3, p4, p5, p6, _⟩ := seven_cells (put7_blk hR8 (.int .i64 yk) (.int .i64 ((K7 : Int) - 1000)) (.int .i64 yr) (.int .i64 yg) (.int .i64 yb) (.int .i64 yc) (.string ⟨yt.toArray⟩))
    unfold put7 at p0 p1 p2 p3 p4 p5 p6
    have hFz := (D6.fr_put7 hF8 (b := w.heap.size) (Nat.le_refl _) (by omega) (.int .i64 yk) (.int .i64 ((K7 : Int) - 1000)) (.int .i64 yr) (.int .i64 yg) (.int .i64 yb) (.int .i64 yc) (.string ⟨yt.toArray⟩)).drew
    go_wp2_with fail
    exact bodyPost_ret (v := .tuple #[.int .i64 l, valV ⟨yk, (K7 : Int) - 1000, yr, yg, yb, yc, yt⟩]) (by simp only [results, Tryz.results22]; simp [go_sem, p0, p1, p2, p3, p4, p5, p6, valV]) rfl ⟨l, _, rfl, hl, hyt, hFz.only.below (by omega) (Nat.le_refl _)⟩

end Go.Proofs.YtjgfbbjecbeipaaGreatDoor.D8
