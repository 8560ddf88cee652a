/- Chapter 10 of the program: withMark. -/
import Derived.Test.YtliihnkonakacaaGreatDoorPick10
namespace Go.Proofs.YtliihnkonakacaaGreatDoor.B10
open Go.Proofs.YtliihnkonakacaaGreatDoor.P1 Go.Proofs.YtliihnkonakacaaGreatDoor.B1 Go.Proofs.YtliihnkonakacaaGreatDoor.B2 Go.Proofs.YtliihnkonakacaaGreatDoor.T1 Go.Proofs.YtliihnkonakacaaGreatDoor.BT Go.Proofs.YtliihnkonakacaaGreatDoor.P5 Go.Proofs.YtliihnkonakacaaGreatDoor.P6 Go.Proofs.YtliihnkonakacaaGreatDoor.P9 Go.Proofs.YtliihnkonakacaaGreatDoor.B5 Go.Proofs.YtliihnkonakacaaGreatDoor.B6 Go.Proofs.YtliihnkonakacaaGreatDoor.B9 Go.Proofs.YtliihnkonakacaaGreatDoor.D1 Go.Proofs.YtliihnkonakacaaGreatDoor.W8 Go.Proofs.YtliihnkonakacaaGreatDoor.RC Go.Proofs.YtliihnkonakacaaGreatDoor.RI Go.Proofs.YtliihnkonakacaaGreatDoor.P10
open Go.ChangeShapes Go.WideShapes Go.ChangeAt Go.RowKit
set_option linter.unusedVariables false

/-- What a mark's reading answers. -/
def Marked10 (x : Pv) (m : List Tok) (B : Nat) (w : World) (e : Ending) (w' : World) : Prop :=
  ∃ y b, e = .returned (.tuple #[ptV y, .bool b]) ∧ Words w' y.u B y.p.bs ∧ w.grownBy w' x.u.ownBlock ∧ match withMark x.p m with
    | none => b = false
    | some q => b = true ∧ y.p = q

/-- An empty part goes into the result's cells. -/
theorem zero_laid {W : World} {b : Nat} {old : List Value} (h : LBlk W b old) (hl : old.length = 4) : ∃ W', (storeVar 37 ⟨b, 0, none⟩ (.agg #[.string ⟨#[]⟩, .string ⟨#[]⟩, .slice none 0 0, .bool false])).run Tryz.prog W = .ok () W' ∧ (loadVar 37 ⟨b, 0, none⟩).run Tryz.prog W' = .ok (ptV ⟨Pt.zero, .slice none 0 0⟩) W' ∧ Only b W W' := by
  obtain ⟨W', e, hl', ho, _⟩ := store_blk (P := Tryz.prog) (ty := 37) (vs := [.string ⟨#[]⟩, .string ⟨#[]⟩, .slice none 0 0, .bool false]) h pt_wide (by rw [hl]; rfl) rfl
  exact ⟨W', e, load_blk hl' pt_wide, ho⟩

set_option maxRecDepth 20000 in
set_option maxHeartbeats 4000000 in
theorem withMark_one (x : Pv) (a : Tok) (v : Value) (B : Nat) (w : World) (h : TokSlc w v [a]) (hx : Words w x.u B x.p.bs) (hB : B ≤ w.heap.size) :
    Calls Tryz.prog 144 #[ptV x, v] w (Marked10 x [a] B w) := by
  obtain ⟨am, cm, rfl, _⟩ := h.form
  have hw := words_shapeA hx
  obtain ⟨⟨tg, idp, bs, nr⟩, u⟩ := x
  obtain ⟨au, cu, eu⟩ := hw
  dsimp only at eu
  subst eu
  dsimp only at hx
  rw [ptV_is]
  dsimp only
  have hsz : (w.alloc (.cells #[.string ⟨tg.toArray⟩, .string ⟨idp.toArray⟩, .slice au bs.length cu, .bool nr] 37)).heap.size = w.heap.size + 1 := by simp
  have hr := LBlk.new (w.alloc (.cells #[.string ⟨tg.toArray⟩, .string ⟨idp.toArray⟩, .slice au bs.length cu, .bool nr] 37)) [.string ⟨#[]⟩, .string ⟨#[]⟩, .slice none 0 0, .bool false] 37
  rw [hsz] at hr
  obtain ⟨W9, hst, hld, ho⟩ := zero_laid hr rfl
  have HST := Lib.hid hst
  have HLD := Lib.hid hld
  have hB1 : Below w.heap.size w (w.alloc (.cells #[.string ⟨tg.toArray⟩, .string ⟨idp.toArray⟩, .slice au bs.length cu, .bool nr] 37)) := (Below.refl _ _).alloc (Nat.le_refl _) _
  have hB2 := hB1.alloc hB1.size (.cells #[.string ⟨#[]⟩, .string ⟨#[]⟩, .slice none 0 0, .bool false] 37)
  have hB3 := hB2.trans (ho.below (B := w.heap.size) (Nat.le_succ _) hB2.size)
  clear hst hld h hx hr ho hsz
  go_enter Tryz.func144, Tryz.ntmps144
  go_wp2_with (first | ((with_reducible refine wp_store_at HST.out ?_ ?_); exact And.intro rfl (And.intro rfl (And.intro rfl rfl))) | fail)
  exact bodyPost_ret (results_wide2 HLD.out rfl rfl) rfl ⟨⟨Pt.zero, .slice none 0 0⟩, false, rfl, World.ownsRow_nil _ _ _ _, gr_below hB3 _, rfl⟩

theorem part_stored {W : World} {b : Nat} {old : List Value} (h : LBlk W b old) (hl : old.length = 4) (x : Pv) {a : Option Addr} {n c : Nat} (hx : x.u = .slice a n c) : ∃ W', (storeVar 37 ⟨b, 0, none⟩ (ptV x)).run Tryz.prog W = .ok () W' ∧ (loadVar 37 ⟨b, 0, none⟩).run Tryz.prog W' = .ok (ptV x) W' ∧ Only b W W' := by
  obtain ⟨W', e, hl', ho, _⟩ := store_blk (P := Tryz.prog) (ty := 37) (vs := ptL x) h pt_wide (by rw [hl]; rfl) (by unfold ptL; rw [hx]; rfl)
  exact ⟨W', e, load_blk hl' pt_wide, ho⟩

theorem slc_two {w : World} {v : Value} {a b : Tok} (h : TokSlc w v [a, b]) : ∃ g off cap, v = .slice (some ⟨g, off, none⟩) 2 cap ∧ 2 ≤ cap ∧ RC.At 3 w g off (tokRs [a, b]) := by
  obtain ⟨ad, cap, rfl, h1, h2, h3⟩ := h.form
  obtain ⟨g, off, rfl, hat⟩ := h3 (by simp)
  exact ⟨g, off, cap, rfl, h1, hat⟩

set_option maxRecDepth 20000 in
set_option maxHeartbeats 4000000 in
theorem withMark_two_impl (x : Pv) (a b : Tok) (v : Value) (B : Nat) (w : World) (h : TokSlc w v [a, b]) (hx : Words w x.u B x.p.bs) (hB : B ≤ w.heap.size) (hlen : x.p.bs.length ≤ 1500000) :
    Calls Tryz.prog 144 #[ptV x, v] w (Marked10 x [a, b] B w) := by
  obtain ⟨i0, hi, hz0, hz1, hz2⟩ := info_parts infoStr
  obtain ⟨g, off, cm, rfl, hc2, hat⟩ := slc_two h
  have hw := words_shapeA hx
  obtain ⟨⟨tg, idp, bs, nr⟩, u⟩ := x
  obtain ⟨au, cu, eu⟩ := hw
  dsimp only at eu
  subst eu
  dsimp only at hx hlen
  rw [ptV_is]
  dsimp only
  have HWM := Lib.hid (withMark_two ⟨tg, idp, bs, nr⟩ a b)
  have hsz : (w.alloc (.cells #[.string ⟨tg.toArray⟩, .string ⟨idp.toArray⟩, .slice au bs.length cu, .bool nr] 37)).heap.size = w.heap.size + 1 := by simp
  have hr := LBlk.new (w.alloc (.cells #[.string ⟨tg.toArray⟩, .string ⟨idp.toArray⟩, .slice au bs.length cu, .bool nr] 37)) [.string ⟨#[]⟩, .string ⟨#[]⟩, .slice none 0 0, .bool false] 37
  rw [hsz] at hr
  have hp := (LBlk.new w [.string ⟨tg.toArray⟩, .string ⟨idp.toArray⟩, .slice au bs.length cu, .bool nr] 37).alloc (.cells #[.string ⟨#[]⟩, .string ⟨#[]⟩, .slice none 0 0, .bool false] 37)
  have hB1 : Below w.heap.size w (w.alloc (.cells #[.string ⟨tg.toArray⟩, .string ⟨idp.toArray⟩, .slice au bs.length cu, .bool nr] 37)) := (Below.refl _ _).alloc (Nat.le_refl _) _
  have hB2 := hB1.alloc hB1.size (.cells #[.string ⟨#[]⟩, .string ⟨#[]⟩, .slice none 0 0, .bool false] 37)
  have hsz2 : w.heap.size + 1 < ((w.alloc (.cells #[.string ⟨tg.toArray⟩, .string ⟨idp.toArray⟩, .slice au bs.length cu, .bool nr] 37)).alloc (.cells #[.string ⟨#[]⟩, .string ⟨#[]⟩, .slice none 0 0, .bool false] 37)).heap.size := by simp
  have HX := Lib.hid hx
  have HSZ := Lib.hid hsz2
  have HAT := Lib.hid hat
  clear hsz h hx hsz2 hat
  go_enter Tryz.func144, Tryz.ntmps144
  go_upto_region 1 with (fail)
  generalize (w.alloc (.cells #[.string ⟨tg.toArray⟩, .string ⟨idp.toArray⟩, .slice au bs.length cu, .bool nr] 37)).alloc (.cells #[.string ⟨#[]⟩, .string ⟨#[]⟩, .slice none 0 0, .bool false] 37) = W2 at *
  have HR2 := Lib.hid hr
  have HP2 := Lib.hid hp
  obtain ⟨a0, a1, a2⟩ := three_at (i := 0) (HAT.out.on hB2) rfl
  obtain ⟨b0, b1, b2⟩ := three_at (i := 1) (HAT.out.on hB2) rfl
  rw [Nat.zero_mul, Nat.add_zero] at a0 a1 a2
  rw [Nat.one_mul] at b0 b1 b2
  by_cases hk : b.k = 1
  · have hk' : (b.k == 1) = true := by simp [hk]
    have hk2 : (b.k != 1) = false := by simp [hk]
    have h61 := fun w' => eq_token a.k a.n 6 0 a.t [61] w'
    have h46 := fun w' => eq_token a.k a.n 6 0 a.t [46] w'
    rw [Tok_eta] at h61 h46
    have e61 : (⟨6, [61], 0⟩ : Tok) = eqT := rfl
    have e46 : (⟨6, [46], 0⟩ : Tok) = dotT := rfl
    rw [e61] at h61
    rw [e46] at h46
    obtain ⟨nb, hnb⟩ : ∃ nb, bs.length = nb := ⟨_, rfl⟩
    have HNB := Lib.hid hnb
    have hx' := HX.out
    unfold Words at hx'
    rw [hnb] at hx' HP2 hlen ⊢
    replace HX := Lib.hid hx'
    clear hx'
    rw [if_pos hk] at HWM
    have HB2 := Lib.hid hB2
    clear hk hp hr hnb e61 e46 hB2
    cases hs1 : a.same eqT
    · rw [hs1, if_neg (by decide)] at HWM
      rw [hs1] at h61
      cases hs2 : a.same dotT
      · rw [hs2, if_neg (by decide)] at HWM
        rw [hs2] at h46
        have HN := Lib.hid HWM.out
        clear hs1 hs2 HWM
        go_wp2_with fail
        refine (sign_impl 61 _).mono ?_
        rintro e W3 ⟨rfl, g3⟩
        go_wp2_with fail
        refine (sign_impl 46 _).mono ?_
        rintro e W4 ⟨rfl, g4⟩
        obtain ⟨W9, hst, hld, ho⟩ := zero_laid ((HR2.out.below g3).below g4) rfl
        have HST := Lib.hid hst
        have HLD := Lib.hid hld
        have hB3 := HB2.out.trans (g3.mono HB2.out.size)
        have hB4 := hB3.trans (g4.mono hB3.size)
        have hB5 := hB4.trans (ho.below (B := w.heap.size) (Nat.le_succ _) hB4.size)
        clear hst hld ho
        go_wp2_with (first | ((with_reducible refine wp_store_at HST.out ?_ ?_); exact And.intro rfl (And.intro rfl (And.intro rfl rfl))) | fail)
        exact bodyPost_ret (results_wide2 HLD.out rfl rfl) rfl ⟨⟨Pt.zero, .slice none 0 0⟩, false, rfl, World.ownsRow_nil _ _ _ _, gr_below hB5 _, by rw [HN.out]⟩
      · rw [hs2, if_pos rfl] at HWM
        rw [hs2] at h46
        have HN := Lib.hid HWM.out
        clear hs1 hs2 HWM
        go_wp2_with fail
        refine (sign_impl 61 _).mono ?_
        rintro e W3 ⟨rfl, g3⟩
        go_wp2_with fail
        refine (sign_impl 46 _).mono ?_
        rintro e W4 ⟨rfl, g4⟩
        have hB3 := HB2.out.trans (g3.mono HB2.out.size)
        have hB4 := hB3.trans (g4.mono hB3.size)
        have hp4 := (HP2.out.below g3).below g4
        have hr4 := (HR2.out.below g3).below g4
        have hx4 := own_below HX.out hB4
        obtain ⟨d2, f2⟩ := hp4.2 2 _ rfl
        have hs4 : w.heap.size + 1 < W4.heap.size := Nat.lt_of_lt_of_le HSZ.out (Nat.le_trans g3.size g4.size)
        have hx5 := World.ownsRow.alloc hx4 (.cells #[.string ⟨b.t.toArray⟩] 9)
        have hp5 := hp4.alloc (.cells #[.string ⟨b.t.toArray⟩] 9)
        have hr5 := hr4.alloc (.cells #[.string ⟨b.t.toArray⟩] 9)
        have HP5 := Lib.hid hp5
        have HR5 := Lib.hid hr5
        have HX5 := Lib.hid hx5
        have hB5 := hB4.alloc hB4.size (.cells #[.string ⟨b.t.toArray⟩] 9)
        have HNEW := Lib.hid (fun (q : Nat) (hq : w.heap.size ≤ q) => own_new HX.out hq)
        have HB5 := Lib.hid hB5
        clear hp5 hr5 hx4 hp4 hr4 hB3
        go_upto_region 11 with (at_builtin; refine wpList_append_own_at _ rfl _ _ 35 rfl B 9 i0 _ 1 16 Tryz.underlying35 hi hz0 hz1 hz2 rfl (by decide) _ nb (wordsV bs) rfl hx5 ⟨W4.heap.size, 0, none⟩ 1 1 [.string ⟨b.t.toArray⟩] rfl rfl (cell_one_new _ _ _) (by simp [Value.oneCell']) (by simp [maxLen] <;> omega) (by omega) (by simp; omega) ?_; intro v6 w6 hown6 hgrow6 _ hat6; obtain ⟨g', cap', rfl⟩ := ownsRow_succ hown6; obtain ⟨d3, f3⟩ := (LBlk.grown (b := w.heap.size) HP5.out hgrow6 (HNEW.out _ (Nat.le_refl _))).2 2 _ rfl)
        have hp6 := LBlk.grown (b := w.heap.size) HP5.out hgrow6 (HNEW.out _ (Nat.le_refl _))
        have hr6 := LBlk.grown (b := w.heap.size + 1) HR5.out hgrow6 (HNEW.out _ (Nat.le_succ _))
        have hp7 : LBlk (w6.setCell ⟨w.heap.size, 2, none⟩ (.slice (some ⟨g', 0, none⟩) (nb + 1) cap')) w.heap.size [.string ⟨tg.toArray⟩, .string ⟨idp.toArray⟩, .slice (some ⟨g', 0, none⟩) (nb + 1) cap', .bool nr] := hp6.set 2 _ (by simp)
        have hr7 := hr6.only (only_set w6 w.heap.size 2 (.slice (some ⟨g', 0, none⟩) (nb + 1) cap')) (Nat.ne_of_gt (Nat.lt_succ_self _))
        have HL7 := Lib.hid (load_blk (P := Tryz.prog) (ty := 37) hp7 pt_wide)
        obtain ⟨W9, hst, hld, ho⟩ := part_stored hr7 rfl ⟨⟨tg, idp, bs ++ [b.t], nr⟩, .slice (some ⟨g', 0, none⟩) (nb + 1) cap'⟩ rfl
        rw [ptV_is] at hst
        dsimp only at hst
        have HST := Lib.hid hst
        have HLD := Lib.hid hld
        have hg' : ∀ q, w.heap.size ≤ q → q < w.heap.size + 2 → some q ≠ (Value.slice (some ⟨g', 0, none⟩) (nb + 1) cap').ownBlock := fun q h1 h2 e => by
          rcases hat6 with h6 | h6
          · rw [← e] at h6
            exact HNEW.out q h1 h6
          · rw [← e] at h6
            have := Option.some.inj h6
            simp at this
            omega
        have hw6 : Words w6 (.slice (some ⟨g', 0, none⟩) (nb + 1) cap') B (bs ++ [b.t]) := words_snoc HNB.out hown6
        have hw7 := own_otherA hw6 (only_set w6 w.heap.size 2 (.slice (some ⟨g', 0, none⟩) (nb + 1) cap')) (hg' _ (Nat.le_refl _) (by omega))
        have hw9 := own_otherA hw7 ho (hg' _ (Nat.le_succ _) (by omega))
        have hgr : w.grownBy W9 (Value.slice au nb cu).ownBlock := gr_trans (gr_trans (gr_trans (gr_below HB5.out _) hgrow6 (Or.inl rfl)) (gr_only (only_set w6 w.heap.size 2 (.slice (some ⟨g', 0, none⟩) (nb + 1) cap'))) (Or.inr fun k e => by cases e; exact Nat.le_refl _)) (gr_only ho) (Or.inr fun k e => by cases e; exact Nat.le_succ _)
        clear hst hld ho hp6 hr6 hp7 hr7 hown6 hgrow6 hat6 hw6 hw7 hx5 hg' hB4 hB5
        go_wp2_with (first | ((with_reducible refine wp_store_at HST.out ?_ ?_); exact And.intro rfl (And.intro rfl (And.intro rfl rfl))) | ((with_reducible refine wp_load_at HL7.out ?_ ?_); exact And.intro rfl (And.intro rfl rfl)))
        exact bodyPost_ret (results_wide2 HLD.out rfl rfl) rfl ⟨⟨⟨tg, idp, bs ++ [b.t], nr⟩, .slice (some ⟨g', 0, none⟩) (nb + 1) cap'⟩, true, rfl, hw9, (by show w.grownBy W9 (Value.slice au bs.length cu).ownBlock; rw [HNB.out]; exact hgr), by rw [HN.out]; exact ⟨rfl, rfl⟩⟩
    · rw [hs1, if_pos rfl] at HWM
      rw [hs1] at h61
      clear hs1
      have hi1 : (idp == []) = decide (idp = []) := by cases idp <;> rfl
      have hi2 : (idp != []) = !decide (idp = []) := by cases idp <;> rfl
      have HW1 := Lib.hid HWM.out
      clear HWM
      by_cases h0 : idp = []
      · rw [decide_eq_true h0] at hi1 hi2
        have H0 := Lib.hid h0
        clear h0
        go_wp2_with fail
        refine (sign_impl 61 _).mono ?_
        rintro e W3 ⟨rfl, g3⟩
        have hB3 := HB2.out.trans (g3.mono HB2.out.size)
        have hp3 := HP2.out.below g3
        have hr3 := HR2.out.below g3
        have hx3 := own_below HX.out hB3
        obtain ⟨d1, f1⟩ := hp3.2 1 _ rfl
        have hp4 : LBlk (W3.setCell ⟨w.heap.size, 1, none⟩ (.string ⟨b.t.toArray⟩)) w.heap.size [.string ⟨tg.toArray⟩, .string ⟨b.t.toArray⟩, .slice au nb cu, .bool nr] := hp3.set 1 _ (by simp)
        have hr4 := hr3.only (only_set W3 w.heap.size 1 (.string ⟨b.t.toArray⟩)) (Nat.ne_of_gt (Nat.lt_succ_self _))
        have HL4 := Lib.hid (load_blk (P := Tryz.prog) (ty := 37) hp4 pt_wide)
        obtain ⟨W9, hst, hld, ho⟩ := part_stored hr4 rfl ⟨⟨tg, b.t, bs, nr⟩, .slice au nb cu⟩ rfl
        rw [ptV_is] at hst
        dsimp only at hst
        have HST := Lib.hid hst
        have HLD := Lib.hid hld
        have hx4 := own_otherA hx3 (only_set W3 w.heap.size 1 (.string ⟨b.t.toArray⟩)) (own_new HX.out (Nat.le_refl _))
        have hx9 : Words W9 (.slice au nb cu) B bs := by
          have := own_otherA hx4 ho (own_new HX.out (Nat.le_succ _))
          show W9.ownsRow B 9 1 (.slice au nb cu) bs.length (wordsV bs)
          rw [HNB.out]
          exact this
        have hB4 := hB3.trans ((only_set W3 w.heap.size 1 (.string ⟨b.t.toArray⟩)).below (B := w.heap.size) (Nat.le_refl _) hB3.size)
        have hB9 := hB4.trans (ho.below (B := w.heap.size) (Nat.le_succ _) hB4.size)
        clear hst hld ho hp3 hr3 hx3 hp4 hr4 hx4 hB3 hB4
        go_wp2_with (first | ((with_reducible refine wp_store_at HST.out ?_ ?_); exact And.intro rfl (And.intro rfl (And.intro rfl rfl))) | ((with_reducible refine wp_load_at HL4.out ?_ ?_); exact And.intro rfl (And.intro rfl rfl)))
        exact bodyPost_ret (results_wide2 HLD.out rfl rfl) rfl ⟨⟨⟨tg, b.t, bs, nr⟩, .slice au nb cu⟩, _, rfl, hx9, gr_below hB9 _, by rw [HW1.out, if_pos H0.out]; exact ⟨rfl, rfl⟩⟩
      · rw [decide_eq_false h0] at hi1 hi2
        have H0 := Lib.hid h0
        clear h0
        go_wp2_with fail
        refine (sign_impl 61 _).mono ?_
        rintro e W3 ⟨rfl, g3⟩
        have hB3 := HB2.out.trans (g3.mono HB2.out.size)
        have hp3 := HP2.out.below g3
        have hr3 := HR2.out.below g3
        have hx3 := own_below HX.out hB3
        obtain ⟨d1, f1⟩ := hp3.2 1 _ rfl
        have hp4 : LBlk (W3.setCell ⟨w.heap.size, 1, none⟩ (.string ⟨b.t.toArray⟩)) w.heap.size [.string ⟨tg.toArray⟩, .string ⟨b.t.toArray⟩, .slice au nb cu, .bool nr] := hp3.set 1 _ (by simp)
        have hr4 := hr3.only (only_set W3 w.heap.size 1 (.string ⟨b.t.toArray⟩)) (Nat.ne_of_gt (Nat.lt_succ_self _))
        have HL4 := Lib.hid (load_blk (P := Tryz.prog) (ty := 37) hp4 pt_wide)
        obtain ⟨W9, hst, hld, ho⟩ := part_stored hr4 rfl ⟨⟨tg, b.t, bs, nr⟩, .slice au nb cu⟩ rfl
        rw [ptV_is] at hst
        dsimp only at hst
        have HST := Lib.hid hst
        have HLD := Lib.hid hld
        have hx4 := own_otherA hx3 (only_set W3 w.heap.size 1 (.string ⟨b.t.toArray⟩)) (own_new HX.out (Nat.le_refl _))
        have hx9 : Words W9 (.slice au nb cu) B bs := by
          have := own_otherA hx4 ho (own_new HX.out (Nat.le_succ _))
          show W9.ownsRow B 9 1 (.slice au nb cu) bs.length (wordsV bs)
          rw [HNB.out]
          exact this
        have hB4 := hB3.trans ((only_set W3 w.heap.size 1 (.string ⟨b.t.toArray⟩)).below (B := w.heap.size) (Nat.le_refl _) hB3.size)
        have hB9 := hB4.trans (ho.below (B := w.heap.size) (Nat.le_succ _) hB4.size)
        clear hst hld ho hp3 hr3 hx3 hp4 hr4 hx4 hB3 hB4
        go_wp2_with (first | ((with_reducible refine wp_store_at HST.out ?_ ?_); exact And.intro rfl (And.intro rfl (And.intro rfl rfl))) | ((with_reducible refine wp_load_at HL4.out ?_ ?_); exact And.intro rfl (And.intro rfl rfl)))
        exact bodyPost_ret (results_wide2 HLD.out rfl rfl) rfl ⟨⟨⟨tg, b.t, bs, nr⟩, .slice au nb cu⟩, _, rfl, hx9, gr_below hB9 _, by rw [HW1.out, if_neg H0.out]⟩
  · have hk' : (b.k == 1) = false := by simp [hk]
    have hk2 : (b.k != 1) = true := by simp [hk]
    have HN := Lib.hid (show withMark ⟨tg, idp, bs, nr⟩ [a, b] = none by rw [HWM.out, if_neg hk])
    obtain ⟨W9, hst, hld, ho⟩ := zero_laid hr rfl
    have HST := Lib.hid hst
    have HLD := Lib.hid hld
    have hB3 := hB2.trans (ho.below (B := w.heap.size) (Nat.le_succ _) hB2.size)
    clear hst hld hk ho
    go_wp2_with (first | ((with_reducible refine wp_store_at HST.out ?_ ?_); exact And.intro rfl (And.intro rfl (And.intro rfl rfl))) | fail)
    exact bodyPost_ret (results_wide2 HLD.out rfl rfl) rfl ⟨⟨Pt.zero, .slice none 0 0⟩, false, rfl, World.ownsRow_nil _ _ _ _, gr_below hB3 _, by rw [HN.out]⟩

end Go.Proofs.YtliihnkonakacaaGreatDoor.B10
