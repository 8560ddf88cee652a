/- Chapter 11: the program's rightFigure, aboveOk, mayStand, TreeOk, isFigure. -/
import Derived.Test.YtgaggpnlimchkaaGreatDoorBase11
import Derived.Test.YtgaggpnlimchkaaGreatDoorImp10
import Derived.Test.YtgaggpnlimchkaaGreatDoorShow9i
namespace Go.Proofs.YtgaggpnlimchkaaGreatDoor.B11
open Go.Proofs.YtgaggpnlimchkaaGreatDoor.P1 Go.Proofs.YtgaggpnlimchkaaGreatDoor.B1 Go.Proofs.YtgaggpnlimchkaaGreatDoor.B2 Go.Proofs.YtgaggpnlimchkaaGreatDoor.T1 Go.Proofs.YtgaggpnlimchkaaGreatDoor.BT Go.Proofs.YtgaggpnlimchkaaGreatDoor.P5 Go.Proofs.YtgaggpnlimchkaaGreatDoor.B5 Go.Proofs.YtgaggpnlimchkaaGreatDoor.P6 Go.Proofs.YtgaggpnlimchkaaGreatDoor.P9 Go.Proofs.YtgaggpnlimchkaaGreatDoor.B6 Go.Proofs.YtgaggpnlimchkaaGreatDoor.B9 Go.Proofs.YtgaggpnlimchkaaGreatDoor.D1 Go.Proofs.YtgaggpnlimchkaaGreatDoor.W8 Go.Proofs.YtgaggpnlimchkaaGreatDoor.RC Go.Proofs.YtgaggpnlimchkaaGreatDoor.RI Go.Proofs.YtgaggpnlimchkaaGreatDoor.P10 Go.Proofs.YtgaggpnlimchkaaGreatDoor.B10 Go.Proofs.YtgaggpnlimchkaaGreatDoor.P11
open Go.ChangeShapes Go.WideShapes Go.ChangeAt Go.RowKit
set_option linter.unusedVariables false

theorem fig_is (abv : Int) (tag id : List UInt8) (bs : List (List UInt8)) (ns : List No) : figOk ⟨abv, tag, id, bs, ns⟩ = (isName tag 8 && ((told [id]).all (fun s => isName s 8) && (badgesOk bs 4 && notesOk ns))) := by
  unfold figOk told
  dsimp only
  have e : ((([id] : List (List UInt8)).filter fun s => !s.isEmpty).all (fun s => isName s 8)) = (id.isEmpty || isName id 8) := by
    cases id with
    | nil => rfl
    | cons c r => simp
  rw [e]
  cases isName tag 8 <;> cases (id.isEmpty || isName id 8) <;> cases badgesOk bs 4 <;> rfl

set_option maxRecDepth 20000 in
set_option maxHeartbeats 2000000 in
theorem rightFigure_impl (x : Fv) (w : World) (L : Pow w) (h : HeldF w x) (hf : FitsF x) :
    Calls Tryz.prog 81 #[fiV x] w (Ans (.bool (figOk x.f)) w) := by
  obtain ⟨⟨abv, tag, id, bs, ns⟩, u, un⟩ := x
  obtain ⟨_, f1, f2, f3, f4, f5, f6⟩ := hf
  dsimp only at f1 f2 f3 f4 f5 f6
  have HE := Lib.hid (fig_is abv tag id bs ns)
  have HH := Lib.hid h
  obtain ⟨⟨a, cap, eu, hc1, hc2⟩, a2, cap2, en, hc3, hc4⟩ := heldF_form h
  dsimp only at eu hc1 en hc3
  subst eu en
  obtain ⟨W0, eW0⟩ : ∃ W, w.alloc (.cells #[.int .i64 abv, .string ⟨tag.toArray⟩, .string ⟨id.toArray⟩, .slice a bs.length cap, .slice a2 ns.length cap2] 28) = W := ⟨_, rfl⟩
  have hB0 : Below w.heap.size w W0 := by rw [← eW0]; exact (Below.refl _ _).alloc (Nat.le_refl _) _
  have hl0 := LBlk.new w [.int .i64 abv, .string ⟨tag.toArray⟩, .string ⟨id.toArray⟩, .slice a bs.length cap, .slice a2 ns.length cap2] 28
  rw [eW0] at hl0
  have HL := Lib.hid (fun (W : World) (g : Below W0.heap.size W0 W) => fi_blk (x := ⟨⟨abv, tag, id, bs, ns⟩, .slice a bs.length cap, .slice a2 ns.length cap2⟩) (hl0.below g))
  dsimp only at HL
  obtain ⟨c0, c1, c2, c3, c4⟩ := HL.out W0 (Below.refl _ _)
  have HS := Lib.hid (shortName_impl tag W0 (L.on hB0) (by omega))
  have HTd : Hid (∀ W : World, Calls Tryz.prog 103 #[.slice (some ⟨W.heap.size, 0, none⟩) 1 1] (W.alloc (.cells #[.string ⟨id.toArray⟩] 9)) _) := Lib.hid (fun (W : World) => told_impl [id] _ _ (lit_strs W [id] (by simp)) (by simp))
  have HN := Lib.hid (fun w' (hb : Below w.heap.size w w') r B (hr : Words w' r B (told [id])) => namesOk_impl (told [id]) r w' (L.on hb) (Words.slc hr) (fun s hs => by
    have := (List.mem_filter.1 hs).1
    simp at this
    subst this; exact f2) (by have := told_len [id]; simp at this; omega))
  have HQ := Lib.hid (fun w' (hb : Below w.heap.size w w') => badgesOk_impl 4 (by decide) bs _ w' (L.on hb) (StrSlc.on HH.out.1 hb) f4)
  have HNT := Lib.hid (fun w' (hb : Below w.heap.size w w') => notesOk_impl ns _ w' (L.on hb) (NoSlc.on HH.out.2 hb) (by omega) f6)
  rw [fiV_is]
  dsimp only
  generalize bs.length = nb at *
  generalize ns.length = nn at *
  generalize isName tag 8 = n1 at *
  generalize (told [id]).all (fun s => isName s 8) = n2 at *
  generalize badgesOk bs 4 = qb at *
  generalize notesOk ns = qn at *
  clear h HH hc1 hc2 hc3 hc4 f1 f2 f3 f4 f5 f6 hl0 L
  cases n1
  · have HK := Lib.hid (show figOk ⟨abv, tag, id, bs, ns⟩ = false by rw [HE.out]; rfl)
    go_enter Tryz.func81, Tryz.ntmps81
    go_wp2_with fail
    refine HS.out.mono ?_
    rintro e w1 ⟨rfl, g1⟩
    go_wp2_with fail
    go_ret
    exact ⟨by rw [HK.out]; rfl, hB0.trans (g1.mono hB0.size)⟩
  · go_enter Tryz.func81, Tryz.ntmps81
    go_wp2_with fail
    refine HS.out.mono ?_
    rintro e w1 ⟨rfl, g1⟩
    have hB1 := hB0.trans (g1.mono hB0.size)
    clear c0 c1 c2 c3 c4
    obtain ⟨c0, c1, c2, c3, c4⟩ := HL.out w1 g1
    clear HS
    go_wp2_with fail
    refine (HTd.out w1).mono ?_
    rintro e w2 ⟨r, rfl, hr, g2⟩
    have g12 : Below W0.heap.size W0 w2 := (g1.alloc g1.size _).trans (g2.mono (by have := g1.size; simp; omega))
    have hB2 := hB0.trans (g12.mono hB0.size)
    have HN2 := Lib.hid (HN.out w2 hB2 r _ hr)
    obtain ⟨ar, cr, rfl⟩ := words_shape hr
    generalize (told [id]).length = tl at *
    clear HTd HN hr g2 c0 c1 c2 c3 c4
    obtain ⟨c0, c1, c2, c3, c4⟩ := HL.out w2 g12
    cases n2
    · have HK := Lib.hid (show figOk ⟨abv, tag, id, bs, ns⟩ = false by rw [HE.out]; rfl)
      go_wp2_with (go_at_call 102; refine HN2.out.mono ?_; rintro e w3 ⟨rfl, g3⟩)
      go_ret
      exact ⟨by rw [HK.out]; rfl, hB2.trans (g3.mono hB2.size)⟩
    · go_wp2_with fail
      refine HN2.out.mono ?_
      rintro e w3 ⟨rfl, g3⟩
      have g13 := g12.trans (g3.mono g12.size)
      have hB3 := hB0.trans (g13.mono hB0.size)
      have HQ3 := Lib.hid (HQ.out w3 hB3)
      clear c0 c1 c2 c3 c4 HN2 HQ
      obtain ⟨c0, c1, c2, c3, c4⟩ := HL.out w3 g13
      cases qb
      · have HK := Lib.hid (show figOk ⟨abv, tag, id, bs, ns⟩ = false by rw [HE.out]; rfl)
        go_wp2_with (go_at_call 104; refine HQ3.out.mono ?_; rintro e w4 ⟨rfl, g4⟩)
        go_ret
        exact ⟨by rw [HK.out]; rfl, hB3.trans (g4.mono hB3.size)⟩
      · go_wp2_with fail
        refine HQ3.out.mono ?_
        rintro e w4 ⟨rfl, g4⟩
        have g14 := g13.trans (g4.mono g13.size)
        have hB4 := hB0.trans (g14.mono hB0.size)
        have HNT4 := Lib.hid (HNT.out w4 hB4)
        have HK := Lib.hid (show figOk ⟨abv, tag, id, bs, ns⟩ = qn by rw [HE.out]; rfl)
        clear c0 c1 c2 c3 c4 HQ3 HNT
        obtain ⟨c0, c1, c2, c3, c4⟩ := HL.out w4 g14
        cases qn
        all_goals
          go_wp2_with (go_at_call 105; refine HNT4.out.mono ?_; rintro e w5 ⟨rfl, g5⟩)
          go_ret
          exact ⟨by rw [HK.out]; rfl, hB4.trans (g5.mono hB4.size)⟩

set_option maxRecDepth 20000 in
theorem aboveOk_impl (a : Int) (i : Nat) (w : World) (hi : i ≤ 2000000) :
    Calls Tryz.prog 80 #[.int .i64 a, .int .i64 (i : Int)] w fun e w' => e = .returned (.bool (aboveOk a i)) ∧ w = w' := by
  have i0' : (0 : Int) ≤ (i : Int) := by omega
  by_cases hi0 : i = 0
  · have HK := Lib.hid (show aboveOk a i = (a == -1) by unfold aboveOk; rw [if_pos hi0]; by_cases h : a = -1 <;> simp [h])
    have hie : ((i : Int) == 0) = true := by simp [hi0]
    clear hi0
    go_enter Tryz.func80, Tryz.ntmps80
    go_wp2_with fail
    go_ret
    exact ⟨by rw [HK.out]; rfl, rfl⟩
  · have hie : ((i : Int) == 0) = false := by simp [hi0]
    obtain ⟨j, hij⟩ : ∃ j : Int, (i : Int) - 1 = j := ⟨_, rfl⟩
    have hsub : IntKind.i64.wrap ((i : Int) - 1) = j := by rw [IntKind.wrap_i64]; omega
    have HK := Lib.hid (show aboveOk a i = P1.within a 0 j by unfold aboveOk; rw [if_neg hi0, hij])
    have HW := Lib.hid (fun w' => within_impl a 0 j w')
    clear hi0 hij
    go_enter Tryz.func80, Tryz.ntmps80
    go_wp2_with (go_at_call 85; refine (HW.out _).mono ?_; rintro e w4 ⟨rfl, rfl⟩)
    go_ret
    exact ⟨by rw [HK.out]; rfl, rfl⟩

set_option maxRecDepth 20000 in
set_option maxHeartbeats 1000000 in
theorem mayStand_impl (x : Fv) (i : Nat) (w : World) (L : Pow w) (h : HeldF w x) (hf : FitsF x) (hi : i ≤ 2000000) :
    Calls Tryz.prog 45 #[fiV x, .int .i64 (i : Int)] w (Ans (.bool (mayStand x.f i)) w) := by
  obtain ⟨W0, eW0⟩ : ∃ W, w.alloc (.cells #[.int .i64 x.f.above, .string ⟨x.f.tag.toArray⟩, .string ⟨x.f.id.toArray⟩, x.u, x.n] 28) = W := ⟨_, rfl⟩
  have hB0 : Below w.heap.size w W0 := by rw [← eW0]; exact (Below.refl _ _).alloc (Nat.le_refl _) _
  have hl0 := LBlk.new w (fiL x) 28
  have hl0' : LBlk W0 w.heap.size (fiL x) := by rw [← eW0]; exact hl0
  have HR := Lib.hid (rightFigure_impl x W0 (L.on hB0) (h.on hB0) hf)
  have HA := Lib.hid (fun w' => aboveOk_impl x.f.above i w' hi)
  have HLD := Lib.hid (load_blk (P := Tryz.prog) (ty := 28) hl0' fi_wide)
  have HE := Lib.hid (show mayStand x.f i = (decide (i < 16) && (figOk x.f && aboveOk x.f.above i)) from rfl)
  obtain ⟨c0, _⟩ := fi_blk hl0'
  obtain ⟨⟨abv, tag, id, bs, ns⟩, u, un⟩ := x
  obtain ⟨⟨a, cap, eu, hc1, hc2⟩, a2, cap2, en, hc3, hc4⟩ := heldF_form h
  dsimp only at eu en c0 HA HE HR eW0 HLD
  subst eu en
  rw [fiV_is] at HR ⊢
  dsimp only at HR HE eW0 ⊢
  unfold fiL at HLD
  generalize bs.length = nb at *
  generalize ns.length = nn at *
  have hi' : (i : Int) ≤ 2000000 := by omega
  clear h hf L hl0 hl0' hi hc1 hc2 hc3 hc4
  by_cases h16 : i < 16
  · have h16' : (i : Int) < 16 := by omega
    have HK := Lib.hid (show mayStand ⟨abv, tag, id, bs, ns⟩ i = (aboveOk abv i && figOk ⟨abv, tag, id, bs, ns⟩) by rw [HE.out, decide_eq_true h16, Bool.true_and, Bool.and_comm])
    generalize aboveOk abv i = qa at HA HK
    generalize figOk ⟨abv, tag, id, bs, ns⟩ = qf at HR HK
    clear h16
    cases qa
    · have HK2 := Lib.hid (show mayStand ⟨abv, tag, id, bs, ns⟩ i = false by rw [HK.out]; rfl)
      go_enter Tryz.func45, Tryz.ntmps45
      go_wp2_with fail
      refine (HA.out _).mono ?_
      rintro e w1 ⟨rfl, rfl⟩
      go_wp2_with fail
      go_ret
      exact ⟨by rw [HK2.out]; rfl, hB0⟩
    · have HK2 := Lib.hid (show mayStand ⟨abv, tag, id, bs, ns⟩ i = qf by rw [HK.out]; rfl)
      cases qf
      all_goals
        go_enter Tryz.func45, Tryz.ntmps45
        go_wp2_with fail
        refine (HA.out _).mono ?_
        rintro e w1 ⟨rfl, rfl⟩
        go_wp2_with (first | (refine wpList_bare11 rfl ?_; (with_reducible refine wp_load_at HLD.out ?_ ?_); exact And.intro rfl (And.intro rfl rfl)) | (go_at_call 81; refine HR.out.mono ?_; rintro e w3 ⟨rfl, g3⟩))
        go_ret
        exact ⟨by rw [HK2.out]; rfl, hB0.trans (g3.mono hB0.size)⟩
  · have h16' : ¬ (i : Int) < 16 := by omega
    have HK2 := Lib.hid (show mayStand ⟨abv, tag, id, bs, ns⟩ i = false by rw [HE.out, decide_eq_false h16]; rfl)
    go_enter Tryz.func45, Tryz.ntmps45
    go_wp2_with fail
    go_ret
    exact ⟨by rw [HK2.out]; rfl, hB0⟩

set_option maxRecDepth 20000 in
set_option maxHeartbeats 2000000 in
theorem TreeOk_impl (xs : List Fv) (v : Value) (w : World) (L : Pow w) (h : FiSlc w v xs) (hf : ∀ x ∈ xs, FitsF x) (hs : xs.length ≤ 2000000) :
    Calls Tryz.prog 18 #[v] w (Ans (.bool (treeOk (fis xs))) w) := by
  obtain ⟨a, cap, rfl, hnc, hcap, HA0⟩ := h.form
  have HH := Lib.hid h.2
  obtain ⟨n, hn⟩ : ∃ n, xs.length = n := ⟨_, rfl⟩
  rw [hn] at hnc hs ⊢
  have HF := Lib.hid hf
  have HN := Lib.hid hn
  have HA := Lib.hid HA0
  have HLL := Lib.hid L
  have hnc' : (n : Int) ≤ (cap : Int) := by omega
  have hs' : (n : Int) ≤ 2000000 := by omega
  clear h hn HA0 hcap hf L
  go_enter Tryz.func18, Tryz.ntmps18
  go_wp2_with fail
  go_loopg [7] n (fun kx s7 wr => ∃ i : Nat, s7 = .int .i64 (i : Int) ∧ kx + i = n ∧ Hid (∀ j f, j < i → (fis xs)[j]? = some f → mayStand f j = true) ∧ Below w.heap.size w wr)
  case atStart => exact ⟨0, rfl, by omega, Lib.hid fun j x hj => absurd hj (Nat.not_lt_zero _), Below.refl _ _⟩
  case round =>
    obtain ⟨i, rfl, hk, I, hB⟩ := hrel
    by_cases hlt : i < n
    · have hlt' : (i : Int) < (n : Int) := by omega
      have i0' : (0 : Int) ≤ (i : Int) := by omega
      obtain ⟨x, hx⟩ : ∃ x, xs[i]? = some x := ⟨_, List.getElem?_eq_getElem (by rw [HN.out]; exact hlt)⟩
      obtain ⟨g, off, rfl, hat⟩ := HA.out (by intro e0; rw [e0] at hx; cases hx)
      have hm := List.mem_of_getElem? hx
      have hh := (HH.out x hm).on hB
      have HLD := Lib.hid (fi_load (hat.on hB) hx)
      obtain ⟨w2, hst2, hx2, hb2⟩ := fi_laid wr hh
      have HST2 := Lib.hid hst2
      have HL2 := Lib.hid (load_blk (P := Tryz.prog) (ty := 28) hx2 fi_wide)
      have hB2 := hB.trans (hb2.mono hB.size)
      have HT := Lib.hid (mayStand_impl x i w2 (HLL.out.on hB2) (hh.on hb2) (HF.out x hm) (by omega))
      have HX := Lib.hid (fis_at hx)
      obtain ⟨⟨ua, uc, eu, _⟩, na, nc, en, _⟩ := heldF_form hh
      clear hat hx hm hst2 hx2 hh hb2
      cases hok : mayStand x.f i
      · have HK := Lib.hid (show treeOk (fis xs) = false from tree_bad_may HX.out hok)
        rw [hok] at HT
        clear hok
        go_wp2_with (first | (go_at_call 45; refine HT.out.mono ?_; rintro e w3 ⟨rfl, g3⟩) | ((with_reducible refine wp_load_at HLD.out ?_ ?_); exact And.intro rfl (And.intro rfl rfl)) | ((with_reducible refine wp_store_at HST2.out ?_ ?_); exact And.intro rfl (And.intro rfl (And.intro rfl rfl))) | ((with_reducible refine wp_load_at HL2.out ?_ ?_); exact And.intro rfl (And.intro rfl rfl)))
        go_ret
        exact ⟨by rw [HK.out]; rfl, hB2.trans (g3.mono hB2.size)⟩
      · have HI := Lib.hid (show ∀ j f, j < i + 1 → (fis xs)[j]? = some f → mayStand f j = true from fun j f hj hy => by
          rcases Nat.lt_or_eq_of_le (Nat.le_of_lt_succ hj) with h | h
          · exact I.out j f h hy
          · rw [h, HX.out] at hy; cases hy; rw [h]; exact hok)
        rw [hok] at HT
        clear hok
        go_wp2_with (first | (go_at_call 45; refine HT.out.mono ?_; rintro e w3 ⟨rfl, g3⟩) | ((with_reducible refine wp_load_at HLD.out ?_ ?_); exact And.intro rfl (And.intro rfl rfl)) | ((with_reducible refine wp_store_at HST2.out ?_ ?_); exact And.intro rfl (And.intro rfl (And.intro rfl rfl))) | ((with_reducible refine wp_load_at HL2.out ?_ ?_); exact And.intro rfl (And.intro rfl rfl)))
        go_roundg (n - (i + 1))
        case measure => omega
        case rel => exact ⟨i + 1, by go_num, by omega, HI, hB2.trans (g3.mono hB2.size)⟩
    · have hlt' : ¬ (i : Int) < (n : Int) := by omega
      have HK := Lib.hid (show treeOk (fis xs) = true by
        rw [tree_may]
        exact fun j f hf => I.out j f (by have := (List.getElem?_eq_some_iff.1 hf).1; rw [fis_len, HN.out] at this; omega) hf)
      go_wp2_with fail
      go_ret
      exact ⟨by rw [HK.out]; rfl, hB⟩

set_option maxRecDepth 20000 in
set_option maxHeartbeats 1000000 in
theorem isFigure_impl (xs : List Fv) (i : Int) (v : Value) (w : World) (L : Pow w) (h : FiSlc w v xs) (hf : ∀ x ∈ xs, FitsF x) (hs : xs.length ≤ 2000000) :
    Calls Tryz.prog 49 #[v, .int .i64 i] w (Ans (.bool (hasFig (fis xs) i)) w) := by
  have HT := Lib.hid (TreeOk_impl xs v w L h hf hs)
  obtain ⟨j, hj⟩ : ∃ j : Int, (xs.length : Int) - 1 = j := ⟨_, rfl⟩
  have HE := Lib.hid (show hasFig (fis xs) i = (treeOk (fis xs) && P1.within i 0 j) by
    unfold hasFig P1.within
    rw [fis_len, Bool.and_comm]
    congr 2
    rw [decide_eq_decide]; omega)
  have HW := Lib.hid (fun w' => within_impl i 0 j w')
  have hsub : IntKind.i64.wrap ((xs.length : Int) - 1) = j := by rw [IntKind.wrap_i64]; omega
  obtain ⟨a, cap, rfl, hnc, hcap, _⟩ := h.form
  generalize xs.length = n at *
  have hn63 : (n : Int) ≤ 9223372036854775807 := by omega
  clear h hf hs hnc hcap L hj
  cases hq : treeOk (fis xs)
  · have HK := Lib.hid (show hasFig (fis xs) i = false by rw [HE.out, hq]; rfl)
    rw [hq] at HT
    clear hq
    go_enter Tryz.func49, Tryz.ntmps49
    go_wp2_with (go_at_call 18; refine HT.out.mono ?_; rintro e w2 ⟨rfl, g2⟩)
    go_ret
    exact ⟨by rw [HK.out]; rfl, g2⟩
  · have HK := Lib.hid (show hasFig (fis xs) i = P1.within i 0 j by rw [HE.out, hq]; rfl)
    rw [hq] at HT
    generalize P1.within i 0 j = q at HW HK
    clear hq
    cases q
    all_goals
      go_enter Tryz.func49, Tryz.ntmps49
      go_wp2_with (first | (go_at_call 18; refine HT.out.mono ?_; rintro e w2 ⟨rfl, g2⟩) | (go_at_call 85; refine (HW.out _).mono ?_; rintro e w4 ⟨rfl, rfl⟩))
      go_ret
      exact ⟨by rw [HK.out]; rfl, g2⟩

end Go.Proofs.YtgaggpnlimchkaaGreatDoor.B11
