/- Chapter 11: the reference's l11Figure, TreeOk, l11Has. -/
import Derived.Test.YtgaggpnlimchkaaGreatDoorBase11
import Derived.Test.YtgaggpnlimchkaaGreatDoorBase10
import Derived.Test.YtgaggpnlimchkaaGreatDoorShow9
namespace Go.Proofs.YtgaggpnlimchkaaGreatDoor.B11
open Go.Proofs.YtgaggpnlimchkaaGreatDoor.P1 Go.Proofs.YtgaggpnlimchkaaGreatDoor.B1 Go.Proofs.YtgaggpnlimchkaaGreatDoor.B2 Go.Proofs.YtgaggpnlimchkaaGreatDoor.T1 Go.Proofs.YtgaggpnlimchkaaGreatDoor.BT Go.Proofs.YtgaggpnlimchkaaGreatDoor.P5 Go.Proofs.YtgaggpnlimchkaaGreatDoor.B5 Go.Proofs.YtgaggpnlimchkaaGreatDoor.P6 Go.Proofs.YtgaggpnlimchkaaGreatDoor.P9 Go.Proofs.YtgaggpnlimchkaaGreatDoor.B6 Go.Proofs.YtgaggpnlimchkaaGreatDoor.B9 Go.Proofs.YtgaggpnlimchkaaGreatDoor.D1 Go.Proofs.YtgaggpnlimchkaaGreatDoor.W8 Go.Proofs.YtgaggpnlimchkaaGreatDoor.RC Go.Proofs.YtgaggpnlimchkaaGreatDoor.RI Go.Proofs.YtgaggpnlimchkaaGreatDoor.P10 Go.Proofs.YtgaggpnlimchkaaGreatDoor.B10 Go.Proofs.YtgaggpnlimchkaaGreatDoor.P11
open Go.ChangeShapes Go.WideShapes Go.ChangeAt Go.RowKit
set_option linter.unusedVariables false

set_option maxRecDepth 20000 in
set_option maxHeartbeats 2000000 in
theorem Fig_spec (x : Fv) (w : World) (h : HeldF w x) (hf : FitsF x) :
    Calls Tryz.prog 54 #[fiV x] w (Ans (.bool (figOk x.f)) w) := by
  obtain ⟨⟨abv, tag, id, bs, ns⟩, u, un⟩ := x
  obtain ⟨_, f1, f2, f3, f4, f5, f6⟩ := hf
  dsimp only at f1 f2 f3 f4 f5 f6
  have HE := Lib.hid (show figOk ⟨abv, tag, id, bs, ns⟩ = (isName tag 8 && (id.isEmpty || isName id 8) && badgesOk bs 4 && notesOk ns) from rfl)
  obtain ⟨⟨a, cap, eu, hc1, hc2⟩, a2, cap2, en, hc3, hc4⟩ := heldF_form h
  dsimp only at eu hc1 en hc3
  subst eu en
  obtain ⟨W0, eW0⟩ : ∃ W, w.alloc (.cells #[.int .i64 abv, .string ⟨tag.toArray⟩, .string ⟨id.toArray⟩, .slice a bs.length cap, .slice a2 ns.length cap2] 28) = W := ⟨_, rfl⟩
  have hB0 : Below w.heap.size w W0 := by rw [← eW0]; exact (Below.refl _ _).alloc (Nat.le_refl _) _
  have hl0 := LBlk.new w [.int .i64 abv, .string ⟨tag.toArray⟩, .string ⟨id.toArray⟩, .slice a bs.length cap, .slice a2 ns.length cap2] 28
  rw [eW0] at hl0
  have H1 := Lib.hid (fun w' => Name10_spec tag w' f1)
  have H2 := Lib.hid (fun w' => Name10_spec id w' f2)
  have HQ := Lib.hid (Badges_spec 4 (by decide) bs _ _ (StrSlc.on h.1 hB0) f4 (by omega))
  have HNT := Lib.hid (fun (W : World) (g : Below W0.heap.size W0 W) => Notes_spec ns _ W ((NoSlc.on h.2 hB0).on g) (by omega) (fun n hn => (f6 n hn).2))
  have HL := Lib.hid (fun (W : World) (g : Below W0.heap.size W0 W) => fi_blk (x := ⟨⟨abv, tag, id, bs, ns⟩, .slice a bs.length cap, .slice a2 ns.length cap2⟩) (hl0.below g))
  have hi1 : (id == []) = id.isEmpty := by cases id <;> rfl
  dsimp only at HL
  subst eW0
  rw [fiV_is]
  dsimp only
  generalize bs.length = nb at *
  generalize ns.length = nn at *
  generalize id.isEmpty = bi at *
  generalize isName tag 8 = n1 at *
  generalize isName id 8 = n2 at *
  generalize badgesOk bs 4 = qb at *
  generalize notesOk ns = qn at *
  clear h hc1 hc2 hc3 hc4 f1 f2 f3 f4 f5 f6 hl0
  cases n1
  · have HK := Lib.hid (show figOk ⟨abv, tag, id, bs, ns⟩ = false by rw [HE.out]; rfl)
    go_enter Tryz.func54, Tryz.ntmps54
    go_wp2_with (go_at_call 88; refine (H1.out _).mono ?_; rintro e w1 ⟨rfl, rfl⟩)
    go_ret
    exact ⟨by rw [HK.out]; rfl, hB0⟩
  · rcases three_ways bi n2 with ⟨rfl, rfl⟩ | ⟨rfl, rfl⟩ | rfl
    · have HK := Lib.hid (show figOk ⟨abv, tag, id, bs, ns⟩ = false by rw [HE.out]; rfl)
      go_enter Tryz.func54, Tryz.ntmps54
      go_wp2_with (first | (go_at_call 88; have hz := H1; refine (H1.out _).mono ?_; rintro e w1 ⟨rfl, rfl⟩; clear H1) | (go_at_call 88; refine (H2.out _).mono ?_; rintro e w1 ⟨rfl, rfl⟩))
      go_ret
      exact ⟨by rw [HK.out]; rfl, hB0⟩
    all_goals
      have HK := Lib.hid (show figOk ⟨abv, tag, id, bs, ns⟩ = (qb && qn) by rw [HE.out]; simp)
      cases qb
      · have HK2 := Lib.hid (show figOk ⟨abv, tag, id, bs, ns⟩ = false by rw [HK.out]; rfl)
        go_enter Tryz.func54, Tryz.ntmps54
        go_wp2_with (first | (go_at_call 88; have hz := H1; refine (H1.out _).mono ?_; rintro e w1 ⟨rfl, rfl⟩; clear H1) | (go_at_call 88; refine (H2.out _).mono ?_; rintro e w1 ⟨rfl, rfl⟩) | (go_at_call 89; refine HQ.out.mono ?_; rintro e w3 ⟨rfl, g3⟩; obtain ⟨d0, d1, d2, d3, d4⟩ := HL.out _ g3))
        go_ret
        exact ⟨by rw [HK2.out]; rfl, hB0.trans (g3.mono hB0.size)⟩
      · have HK2 := Lib.hid (show figOk ⟨abv, tag, id, bs, ns⟩ = qn by rw [HK.out]; rfl)
        cases qn
        all_goals
          go_enter Tryz.func54, Tryz.ntmps54
          go_wp2_with (first | (go_at_call 88; have hz := H1; refine (H1.out _).mono ?_; rintro e w1 ⟨rfl, rfl⟩; clear H1) | (go_at_call 88; refine (H2.out _).mono ?_; rintro e w1 ⟨rfl, rfl⟩) | (go_at_call 89; refine HQ.out.mono ?_; rintro e w3 ⟨rfl, g3⟩; obtain ⟨d0, d1, d2, d3, d4⟩ := HL.out _ g3) | (go_at_call 90; refine (HNT.out _ g3).mono ?_; rintro e w4 ⟨rfl, g4⟩))
          go_ret
          exact ⟨by rw [HK2.out]; rfl, hB0.trans ((g3.trans (g4.mono g3.size)).mono hB0.size)⟩

theorem stand_parts {f : Fi} {i : Nat} (hf : figOk f = true) : standOk f i = aboveOk f.above i := by unfold standOk; rw [hf]; rfl

set_option maxRecDepth 20000 in
set_option maxHeartbeats 2000000 in
theorem TreeOk_spec (xs : List Fv) (v : Value) (w : World) (h : FiSlc w v xs) (hf : ∀ x ∈ xs, FitsF x) (hs : xs.length ≤ 2000000) :
    Calls Tryz.prog 19 #[v] w (Ans (.bool (treeOk (fis xs))) w) := by
  obtain ⟨a, cap, rfl, hnc, hcap, HA0⟩ := h.form
  have HH := Lib.hid h.2
  obtain ⟨n, hn⟩ : ∃ n, xs.length = n := ⟨_, rfl⟩
  rw [hn] at hnc hs ⊢
  have HF := Lib.hid hf
  have HN := Lib.hid hn
  have HA := Lib.hid HA0
  have hnc' : (n : Int) ≤ (cap : Int) := by omega
  have hs' : (n : Int) ≤ 2000000 := by omega
  clear h hn HA0 hcap hf
  go_enter Tryz.func19, Tryz.ntmps19
  go_wp2_with fail
  go_loopg [3] n (fun kx s3 wr => ∃ i : Nat, s3 = .int .i64 (i : Int) ∧ kx + i = n ∧ Hid (∀ j f, j < i → (fis xs)[j]? = some f → standOk f j = true) ∧ Below w.heap.size w wr)
  case atStart => exact ⟨0, rfl, by omega, Lib.hid fun j x hj => absurd hj (Nat.not_lt_zero _), Below.refl _ _⟩
  case round =>
    obtain ⟨i, rfl, hk, I, hB⟩ := hrel
    by_cases hlt : i < n
    · have hlt' : (i : Int) < (n : Int) := by omega
      have i0' : (0 : Int) ≤ (i : Int) := by omega
      obtain ⟨x, hx⟩ : ∃ x, xs[i]? = some x := ⟨_, List.getElem?_eq_getElem (by rw [HN.out]; exact hlt)⟩
      obtain ⟨g, off, rfl, hat⟩ := HA.out (by intro e0; rw [e0] at hx; cases hx)
      have hm := List.mem_of_getElem? hx
      have HLD := Lib.hid (fi_load (hat.on hB) hx)
      have HT := Lib.hid (Fig_spec x wr ((HH.out x hm).on hB) (HF.out x hm))
      have HX := Lib.hid (fis_at hx)
      have hatr := hat.on hB
      have HC := Lib.hid (fun (W : World) (g : Below wr.heap.size wr W) => (fi_cells (hatr.on g) hx).1)
      have HFA := Lib.hid (HF.out x hm).1
      obtain ⟨c0, _⟩ := fi_cells hatr hx
      clear hat hatr hx hm
      cases hok : figOk x.f
      · have HK := Lib.hid (show treeOk (fis xs) = false from tree_bad HX.out (by unfold standOk; rw [hok]; rfl))
        rw [hok] at HT
        clear hok
        go_wp2_with (first | (go_at_call 54; refine HT.out.mono ?_; rintro e w3 ⟨rfl, g3⟩) | ((with_reducible refine wp_load_at HLD.out ?_ ?_); exact And.intro rfl (And.intro rfl rfl)))
        go_ret
        exact ⟨by rw [HK.out]; rfl, hB.trans (g3.mono hB.size)⟩
      · have HS := Lib.hid (show standOk x.f i = aboveOk x.f.above i from stand_parts hok)
        rw [hok] at HT
        clear hok
        generalize x.f.above = ab at *
        by_cases hi0 : i = 0
        · have hie : ((i : Int) == 0) = true := by simp [hi0]
          have hz0 : ¬ 0 < i := by omega
          have hz1 : ¬ (0 : Int) < (i : Int) := by omega
          have HI0 := Lib.hid hi0
          clear hi0
          by_cases ha : ab = -1
          · have hae : (ab != -1) = false := by simp [ha]
            have HI := Lib.hid (show ∀ j f, j < i + 1 → (fis xs)[j]? = some f → standOk f j = true from fun j f hj hy => by
              rcases Nat.lt_or_eq_of_le (Nat.le_of_lt_succ hj) with h | h
              · exact I.out j f h hy
              · rw [h, HX.out] at hy; cases hy; rw [h, HS.out]; unfold aboveOk; rw [if_pos HI0.out]; simp [ha])
            clear ha
            go_wp2_with (first | (go_at_call 54; refine HT.out.mono ?_; rintro e w3 ⟨rfl, g3⟩; have d0 := HC.out _ g3) | ((with_reducible refine wp_load_at HLD.out ?_ ?_); exact And.intro rfl (And.intro rfl rfl)))
            go_roundg (n - (i + 1))
            case measure => omega
            case rel => exact ⟨i + 1, by go_num, by omega, HI, hB.trans (g3.mono hB.size)⟩
          · have hae : (ab != -1) = true := by simp [ha]
            have HK := Lib.hid (show treeOk (fis xs) = false from tree_bad HX.out (by rw [HS.out]; unfold aboveOk; rw [if_pos HI0.out]; simp [ha]))
            clear ha
            go_wp2_with (first | (go_at_call 54; refine HT.out.mono ?_; rintro e w3 ⟨rfl, g3⟩; have d0 := HC.out _ g3) | ((with_reducible refine wp_load_at HLD.out ?_ ?_); exact And.intro rfl (And.intro rfl rfl)))
            go_ret
            exact ⟨by rw [HK.out]; rfl, hB.trans (g3.mono hB.size)⟩
        · have hie : ((i : Int) == 0) = false := by simp [hi0]
          have hz0 : 0 < i := by omega
          have hz1 : (0 : Int) < (i : Int) := by omega
          obtain ⟨j, hij⟩ : ∃ j : Int, (i : Int) - 1 = j := ⟨_, rfl⟩
          have hsub : IntKind.i64.wrap ((i : Int) - 1) = j := by rw [IntKind.wrap_i64]; omega
          have HW := Lib.hid (fun w' => in_spec ab 0 j w')
          have HS2 := Lib.hid (show standOk x.f i = P1.within ab 0 j by rw [HS.out]; unfold aboveOk; rw [if_neg hi0, hij])
          clear hi0 hij
          generalize P1.within ab 0 j = q at HW HS2
          cases q
          · have HK := Lib.hid (show treeOk (fis xs) = false from tree_bad HX.out HS2.out)
            go_wp2_with (first | (go_at_call 54; refine HT.out.mono ?_; rintro e w3 ⟨rfl, g3⟩; have d0 := HC.out _ g3) | (go_at_call 55; refine (HW.out _).mono ?_; rintro e w4 ⟨rfl, rfl⟩) | ((with_reducible refine wp_load_at HLD.out ?_ ?_); exact And.intro rfl (And.intro rfl rfl)))
            go_ret
            exact ⟨by rw [HK.out]; rfl, hB.trans (g3.mono hB.size)⟩
          · have HI := Lib.hid (show ∀ j f, j < i + 1 → (fis xs)[j]? = some f → standOk f j = true from fun j f hj hy => by
              rcases Nat.lt_or_eq_of_le (Nat.le_of_lt_succ hj) with h | h
              · exact I.out j f h hy
              · rw [h, HX.out] at hy; cases hy; rw [h, HS2.out])
            go_wp2_with (first | (go_at_call 54; refine HT.out.mono ?_; rintro e w3 ⟨rfl, g3⟩; have d0 := HC.out _ g3) | (go_at_call 55; refine (HW.out _).mono ?_; rintro e w4 ⟨rfl, rfl⟩) | ((with_reducible refine wp_load_at HLD.out ?_ ?_); exact And.intro rfl (And.intro rfl rfl)))
            go_roundg (n - (i + 1))
            case measure => omega
            case rel => exact ⟨i + 1, by go_num, by omega, HI, hB.trans (g3.mono hB.size)⟩
    · have hlt' : ¬ (i : Int) < (n : Int) := by omega
      have HK := Lib.hid (show treeOk (fis xs) = decide (n ≤ 16) by
        rw [tree_all (fun j f hf => I.out j f (by have := (List.getElem?_eq_some_iff.1 hf).1; rw [fis_len, HN.out] at this; omega) hf), fis_len, HN.out])
      by_cases hle : n ≤ 16
      · have hle' : (n : Int) ≤ 16 := by omega
        have HK2 := Lib.hid (show treeOk (fis xs) = true by rw [HK.out, decide_eq_true hle])
        go_wp2_with fail
        go_ret
        exact ⟨by rw [HK2.out]; rfl, hB⟩
      · have hle' : ¬ (n : Int) ≤ 16 := by omega
        have HK2 := Lib.hid (show treeOk (fis xs) = false by rw [HK.out, decide_eq_false hle])
        go_wp2_with fail
        go_ret
        exact ⟨by rw [HK2.out]; rfl, hB⟩

set_option maxRecDepth 20000 in
set_option maxHeartbeats 2000000 in
theorem Has_spec (xs : List Fv) (i : Int) (v : Value) (w : World) (h : FiSlc w v xs) (hf : ∀ x ∈ xs, FitsF x) (hs : xs.length ≤ 2000000) :
    Calls Tryz.prog 53 #[v, .int .i64 i] w (Ans (.bool (hasFig (fis xs) i)) w) := by
  have HT := Lib.hid (TreeOk_spec xs v w h hf hs)
  have HE := Lib.hid (show hasFig (fis xs) i = ((decide (0 ≤ i) && decide (i < (xs.length : Int))) && treeOk (fis xs)) by unfold hasFig; rw [fis_len])
  obtain ⟨a, cap, rfl, hnc, hcap, _⟩ := h.form
  generalize xs.length = n at *
  have hn63 : (n : Int) ≤ 9223372036854775807 := by omega
  clear h hf hs hnc hcap
  by_cases h0 : 0 ≤ i
  · by_cases h1 : i < (n : Int)
    · have HK := Lib.hid (show hasFig (fis xs) i = treeOk (fis xs) by rw [HE.out, decide_eq_true h0, decide_eq_true h1]; rfl)
      cases hq : treeOk (fis xs)
      all_goals
        rw [hq] at HT HK
        clear hq
        go_enter Tryz.func53, Tryz.ntmps53
        go_wp2_with (go_at_call 19; refine HT.out.mono ?_; rintro e w2 ⟨rfl, g2⟩)
        go_ret
        exact ⟨by rw [HK.out]; rfl, g2⟩
    · have HK := Lib.hid (show hasFig (fis xs) i = false by rw [HE.out, decide_eq_false h1, Bool.and_false]; rfl)
      go_enter Tryz.func53, Tryz.ntmps53
      go_wp2_with fail
      go_ret
      exact ⟨by rw [HK.out]; rfl, Below.refl _ _⟩
  · have HK := Lib.hid (show hasFig (fis xs) i = false by rw [HE.out, decide_eq_false h0]; rfl)
    go_enter Tryz.func53, Tryz.ntmps53
    go_wp2_with fail
    go_ret
    exact ⟨by rw [HK.out]; rfl, Below.refl _ _⟩

end Go.Proofs.YtgaggpnlimchkaaGreatDoor.B11
