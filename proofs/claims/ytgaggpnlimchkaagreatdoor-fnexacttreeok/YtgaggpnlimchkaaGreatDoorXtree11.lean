/- FnExactTreeOk's walk. -/
import Derived.Test.YtgaggpnlimchkaaGreatDoorSpec11
import Derived.Test.YtgaggpnlimchkaaGreatDoorImp11
import Derived.Test.YtgaggpnlimchkaaGreatDoorOpen11b
namespace Go.Proofs.YtgaggpnlimchkaaGreatDoor.B11
open Go.Proofs.YtgaggpnlimchkaaGreatDoor.P1 Go.Proofs.YtgaggpnlimchkaaGreatDoor.B1 Go.Proofs.YtgaggpnlimchkaaGreatDoor.B2 Go.Proofs.YtgaggpnlimchkaaGreatDoor.T1 Go.Proofs.YtgaggpnlimchkaaGreatDoor.BT Go.Proofs.YtgaggpnlimchkaaGreatDoor.P5 Go.Proofs.YtgaggpnlimchkaaGreatDoor.B5 Go.Proofs.YtgaggpnlimchkaaGreatDoor.P6 Go.Proofs.YtgaggpnlimchkaaGreatDoor.P9 Go.Proofs.YtgaggpnlimchkaaGreatDoor.B6 Go.Proofs.YtgaggpnlimchkaaGreatDoor.B9 Go.Proofs.YtgaggpnlimchkaaGreatDoor.D1 Go.Proofs.YtgaggpnlimchkaaGreatDoor.W8 Go.Proofs.YtgaggpnlimchkaaGreatDoor.RC Go.Proofs.YtgaggpnlimchkaaGreatDoor.RI Go.Proofs.YtgaggpnlimchkaaGreatDoor.P10 Go.Proofs.YtgaggpnlimchkaaGreatDoor.B10 Go.Proofs.YtgaggpnlimchkaaGreatDoor.P11
open Go.ChangeShapes Go.WideShapes Go.ChangeAt Go.RowKit
set_option linter.unusedVariables false

set_option maxRecDepth 20000 in
set_option maxHeartbeats 2000000 in
theorem xtree_walk (xs : List Fv) (v : Value) (w : World) (h : FiSlc w v xs) (hf : ∀ x ∈ xs, FiFit x) (L : B5.Pow w) :
    Calls Tryz.prog 5 #[v] w (Ans (.bool true) w) := by
  have HA := Lib.hid h
  have HL := Lib.hid L
  have HFF := Lib.hid hf
  have HZ := Lib.hid (szFigureS_laws xs v w h hf)
  obtain ⟨a, cap, rfl, _⟩ := h.form
  clear h hf L
  generalize hm : xs.length = m at *
  have HM := Lib.hid hm
  clear hm
  go_enter Tryz.func5, Tryz.ntmps5
  go_wp2_with fail
  refine HZ.out.mono ?_
  rintro e w1 ⟨r, rfl, hr0, hr1, hrs, g1⟩
  by_cases hneg : r < 0
  · go_wp2_with fail
    go_ret
    exact ⟨rfl, g1⟩
  · have hsm := hrs (by omega)
    obtain ⟨hl48, hfit⟩ := fitsF_of HFF.out hsm
    have hlen : xs.length ≤ 2000000 := by omega
    have hmem : ∀ (ys : List Fv), fis ys = fis xs → ∀ y ∈ ys, FitsF y := fun ys hy y hm => fitsF_like hfit hy hm
    have hbs : ∀ p ∈ fis xs, p.bs.length ≤ 2000000 ∧ p.ns.length ≤ 2000000 := fitsF_lens hfit
    have hly : ∀ (ys : List Fv), fis ys = fis xs → ys.length = m := fun ys hy => by
      have := congrArg List.length hy
      unfold fis at this
      rw [List.length_map, List.length_map] at this
      rw [this]; exact HM.out
    have HT := Lib.hid (fun w' (hb : Below w.heap.size w w') => toFigureS_laws xs _ w' (HA.out.on hb) (fun x hx => hbs x.f (List.mem_map.2 ⟨x, hx, rfl⟩)) hlen)
    have HS := Lib.hid (fun v' ys w' (hv : FiSlc w' v' ys) (hy : fis ys = fis xs) => by
      have := TreeOk_spec ys v' w' hv (hmem ys hy) (by rw [hly ys hy, ← HM.out]; exact hlen)
      rw [hy] at this
      exact this)
    have HI := Lib.hid (fun v' ys w' (hb : Below w.heap.size w w') (hv : FiSlc w' v' ys) (hy : fis ys = fis xs) => by
      have := TreeOk_impl ys v' w' (HL.out.on hb) hv (hmem ys hy) (by rw [hly ys hy, ← HM.out]; exact hlen)
      rw [hy] at this
      exact this)
    have HE := Lib.hid (fun v' v2 ys zs w' (hv : FiSlc w' v' ys) (hv2 : FiSlc w' v2 zs) (hy : fis ys = fis xs) (hz : fis zs = fis xs) => eqFigureS_same ys zs v' v2 w' hv hv2 (hy.trans hz.symm) (by rw [hy]; exact hbs) (by rw [hly ys hy, ← HM.out]; exact hlen))
    have HY := Lib.hid hly
    generalize treeOk (fis xs) = y at HS HI
    have HD := True.intro
    clear hrs hsm hr0 hr1 HZ hlen hfit hbs hmem hly hl48
    go_wp2_with fail
    refine (HT.out _ g1).mono ?_
    rintro e w2 ⟨v1, y1, rfl, hv1, hy1, g2⟩
    have hB2 := g1.trans (g2.mono g1.size)
    go_wp2_with fail
    refine (HS.out _ _ _ hv1 hy1).mono ?_
    rintro e w3 ⟨rfl, g3⟩
    have hB3 := hB2.trans (g3.mono hB2.size)
    go_wp2_with fail
    refine (HT.out _ hB3).mono ?_
    rintro e w5 ⟨v2, y2, rfl, hv2, hy2, g5⟩
    have hB5 := hB3.trans (g5.mono hB3.size)
    have HV2 := Lib.hid hv2
    have HY2 := Lib.hid hy2
    obtain ⟨a2, c2', rfl, _⟩ := hv2.form
    rw [HY.out y2 hy2]
    rw [HY.out y2 hy2] at HV2
    clear hv2
    go_wp2_with fail
    refine (HI.out _ _ _ hB5 HV2.out HY2.out).mono ?_
    rintro e w6 ⟨rfl, g6⟩
    have hB6 := hB5.trans (g6.mono hB5.size)
    have HV6 := Lib.hid (HV2.out.on g6)
    cases y
    all_goals
      go_wp2_with fail
      refine (HT.out _ hB6).mono ?_
      rintro e w7 ⟨v3, y3, rfl, hv3, hy3, g7⟩
      have hB7 := hB6.trans (g7.mono hB6.size)
      go_wp2_with fail
      refine (HE.out _ _ _ _ _ (HV6.out.on g7) hv3 HY2.out hy3).mono ?_
      rintro e w8 ⟨rfl, g8⟩
      go_wp2_with fail
      go_ret
      exact ⟨rfl, hB7.trans (g8.mono hB7.size)⟩

end Go.Proofs.YtgaggpnlimchkaaGreatDoor.B11
