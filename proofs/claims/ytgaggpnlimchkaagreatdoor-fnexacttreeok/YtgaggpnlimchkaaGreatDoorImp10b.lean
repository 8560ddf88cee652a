/- Chapter 10 of the program: rightPart. -/
import Derived.Test.YtgaggpnlimchkaaGreatDoorImp10
namespace Go.Proofs.YtgaggpnlimchkaaGreatDoor.B10
open Go.Proofs.YtgaggpnlimchkaaGreatDoor.P1 Go.Proofs.YtgaggpnlimchkaaGreatDoor.B1 Go.Proofs.YtgaggpnlimchkaaGreatDoor.B2 Go.Proofs.YtgaggpnlimchkaaGreatDoor.T1 Go.Proofs.YtgaggpnlimchkaaGreatDoor.BT Go.Proofs.YtgaggpnlimchkaaGreatDoor.P5 Go.Proofs.YtgaggpnlimchkaaGreatDoor.B5 Go.Proofs.YtgaggpnlimchkaaGreatDoor.P6 Go.Proofs.YtgaggpnlimchkaaGreatDoor.B6 Go.Proofs.YtgaggpnlimchkaaGreatDoor.V6 Go.Proofs.YtgaggpnlimchkaaGreatDoor.D1 Go.Proofs.YtgaggpnlimchkaaGreatDoor.W8 Go.Proofs.YtgaggpnlimchkaaGreatDoor.RC Go.Proofs.YtgaggpnlimchkaaGreatDoor.RI Go.Proofs.YtgaggpnlimchkaaGreatDoor.P10
open Go.ChangeShapes Go.WideShapes Go.ChangeAt Go.RowKit
set_option linter.unusedVariables false

theorem part_is (p : Pt) : partOk p = (decide (0 < (told [p.tag, p.id]).length + p.bs.length) && ((told [p.tag, p.id]).all (fun s => isName s 8) && badgesOk p.bs 3)) := by
  obtain ⟨tag, id, bs, near⟩ := p
  unfold partOk told
  dsimp only
  cases tag with
  | nil =>
    cases id with
    | nil =>
      cases bs with
      | nil => simp [badgesOk, rises]
      | cons b bs => simp
    | cons c id =>
      simp
      cases isName (c :: id) 8 <;> simp
      intro _; omega
  | cons c tag =>
    cases id with
    | nil =>
      simp
      cases isName (c :: tag) 8 <;> simp
      intro _; omega
    | cons d id =>
      simp
      cases isName (c :: tag) 8 <;> cases isName (d :: id) 8 <;> simp
      intro _; omega

/-- Texts written out as a slice. -/
theorem lit_strs (w : World) (ss : List (List UInt8)) (h : ss.length ≤ 1000) : StrSlc (w.alloc (.cells (wordsV ss).toArray 9)) (.slice (some ⟨w.heap.size, 0, none⟩) ss.length ss.length) ss := by
  have e : ∀ (l : List (List UInt8)), (strRs l).flatten = wordsV l := fun l => by
    induction l with
    | nil => rfl
    | cons x r ih =>
      show [Value.string ⟨x.toArray⟩] ++ (strRs r).flatten = _
      rw [ih]; rfl
  have hl := LBlk.new w (wordsV ss) 9
  rw [← e] at hl
  refine ⟨_, _, by rw [strRs_len], by rw [strRs_len]; exact Nat.le_refl _, by omega, fun _ => ⟨_, _, rfl, ?_⟩⟩
  have := at_of_blk hl (strRs_one ss)
  rw [e] at this
  exact this

theorem told_two (a b : List UInt8) : (told [a, b]).length ≤ 2 ∧ ∀ s ∈ told [a, b], s = a ∨ s = b := by
  refine ⟨told_len _, fun s hs => ?_⟩
  have := (List.mem_filter.1 hs).1
  simpa using this

set_option maxRecDepth 20000 in
set_option maxHeartbeats 1000000 in
theorem rightPart_impl (x : Pv) (w : World) (L : Pow w) (h : Held w x) (hf : Fits x) :
    Calls Tryz.prog 93 #[ptV x] w (Ans (.bool (partOk x.p)) w) := by
  obtain ⟨⟨tag, id, bs, near⟩, u⟩ := x
  obtain ⟨f1, f2, f3, f4⟩ := hf
  dsimp only at f1 f2 f3 f4
  have HE := Lib.hid (part_is ⟨tag, id, bs, near⟩)
  have HH := Lib.hid (show StrSlc w u bs from h)
  obtain ⟨a, cap, eu, hc1, hc2⟩ := held_form h
  dsimp only at eu hc1
  subst eu
  have hl0 := pt_new w ⟨⟨tag, id, bs, near⟩, .slice a bs.length cap⟩ 47
  have hB0 : Below w.heap.size w (w.alloc (.cells #[.string ⟨tag.toArray⟩, .string ⟨id.toArray⟩, .slice a bs.length cap, .bool near] 47)) := (Below.refl _ _).alloc (Nat.le_refl _) _
  have hl1 := Lib.hid (hl0.alloc (.cells #[.string ⟨tag.toArray⟩, .string ⟨id.toArray⟩] 9))
  have hB1 := hB0.alloc hB0.size (.cells #[.string ⟨tag.toArray⟩, .string ⟨id.toArray⟩] 9)
  have HT0 := told_impl [tag, id] _ _ (lit_strs (w.alloc (.cells #[.string ⟨tag.toArray⟩, .string ⟨id.toArray⟩, .slice a bs.length cap, .bool near] 47)) [tag, id] (by simp)) (by simp)
  have es : (w.alloc (.cells #[.string ⟨tag.toArray⟩, .string ⟨id.toArray⟩, .slice a bs.length cap, .bool near] 47)).heap.size = w.heap.size + 1 := World.size_alloc _ _
  have el : ([tag, id] : List (List UInt8)).length = 2 := rfl
  have ew : (wordsV [tag, id]).toArray = #[.string ⟨tag.toArray⟩, .string ⟨id.toArray⟩] := rfl
  rw [es, el, ew] at HT0
  have HT := Lib.hid HT0
  clear HT0 es el ew
  have HN := Lib.hid (fun w' (hb : Below w.heap.size w w') r B (hr : Words w' r B (told [tag, id])) => namesOk_impl (told [tag, id]) r w' (L.on hb) (Words.slc hr) (fun s hs => by
    rcases (told_two tag id).2 s hs with rfl | rfl
    · exact f1
    · exact f2) (by have := (told_two tag id).1; omega))
  have HQ := Lib.hid (fun w' (hb : Below w.heap.size w w') => badgesOk_impl 3 (by decide) bs _ w' (L.on hb) (HH.out.on hb) f4)
  have hk2 := (told_two tag id).1
  obtain ⟨k, hk⟩ : ∃ k, (told [tag, id]).length = k := ⟨_, rfl⟩
  rw [hk] at hk2
  have HK := Lib.hid hk
  obtain ⟨nb, hnb⟩ : ∃ nb, bs.length = nb := ⟨_, rfl⟩
  have HEN : Hid (partOk ⟨tag, id, bs, near⟩ = (decide (0 < k + nb) && ((told [tag, id]).all (fun s => isName s 8) && badgesOk bs 3))) := Lib.hid (by rw [← hk, ← hnb]; exact HE.out)
  rw [hnb] at hl1 hB1 HT HQ f3
  have hk2' : (k : Int) ≤ 2 := by omega
  have hn2' : (nb : Int) ≤ 1048576 := by omega
  generalize (told [tag, id]).all (fun s => isName s 8) = qa at HN HEN
  generalize badgesOk bs 3 = qb at HQ HEN
  rw [ptV_is]
  dsimp only
  rw [hnb]
  clear h HE hl0 hB0 hc1 hc2 L HH hk hnb
  go_enter Tryz.func93, Tryz.ntmps93
  go_wp2_with fail
  refine HT.out.mono ?_
  rintro e w1 ⟨r, rfl, hr, g1⟩
  have hB2 := hB1.trans (g1.mono hB1.size)
  have hl2 := hl1.out.below g1
  obtain ⟨c0, c1, c2, c3⟩ := pt_blk hl2
  dsimp only at c0 c1 c2 c3
  have HN2 := Lib.hid (HN.out w1 hB2 r _ hr)
  obtain ⟨ar, cr, rfl⟩ := words_shape hr
  rw [HK.out] at HN2 ⊢
  clear HT HN hr g1 hl1
  by_cases hpos : 0 < k + nb
  · have hpos' : 0 < (k : Int) + (nb : Int) := by omega
    cases qa
    · have HF := Lib.hid (show partOk ⟨tag, id, bs, near⟩ = false by rw [HEN.out]; simp)
      go_wp2_with (go_at_call 102; refine HN2.out.mono ?_; rintro e w2 ⟨rfl, g2⟩)
      go_ret
      exact ⟨by rw [HF.out]; rfl, hB2.trans (g2.mono hB2.size)⟩
    · have HF := Lib.hid (show partOk ⟨tag, id, bs, near⟩ = qb by rw [HEN.out, decide_eq_true hpos]; rfl)
      have HL2 := Lib.hid hl2
      clear c0 c1 c2 c3 hl2
      have c2 := Lib.hid (fun (w' : World) (hb : Below w1.heap.size w1 w') => (pt_blk (HL2.out.below hb)).2.2.1)
      dsimp only at c2
      cases qb
      all_goals
        have c2a := c2.out w1 (Below.refl _ _)
        go_wp2_with (first | (go_at_call 102; refine HN2.out.mono ?_; rintro e w2 ⟨rfl, g2⟩; have c2b := c2.out w2 g2) | (go_at_call 104; refine (HQ.out _ (hB2.trans (g2.mono hB2.size))).mono ?_; rintro e w3 ⟨rfl, g3⟩))
        go_ret
        have hB3 := hB2.trans (g2.mono hB2.size)
        exact ⟨by rw [HF.out]; rfl, hB3.trans (g3.mono hB3.size)⟩
  · have hpos' : ¬ 0 < (k : Int) + (nb : Int) := by omega
    have HF := Lib.hid (show partOk ⟨tag, id, bs, near⟩ = false by rw [HEN.out, decide_eq_false hpos]; rfl)
    go_wp2_with fail
    go_ret
    exact ⟨by rw [HF.out]; rfl, hB2⟩

end Go.Proofs.YtgaggpnlimchkaaGreatDoor.B10
