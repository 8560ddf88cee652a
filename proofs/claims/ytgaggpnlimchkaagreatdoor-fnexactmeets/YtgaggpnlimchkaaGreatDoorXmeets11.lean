/- FnExactMeets' walk. -/
import Derived.Test.YtgaggpnlimchkaaGreatDoorMeet11
import Derived.Test.YtgaggpnlimchkaaGreatDoorOpen11
namespace Go.Proofs.YtgaggpnlimchkaaGreatDoor.B11
open Go.Proofs.YtgaggpnlimchkaaGreatDoor.P1 Go.Proofs.YtgaggpnlimchkaaGreatDoor.B1 Go.Proofs.YtgaggpnlimchkaaGreatDoor.B2 Go.Proofs.YtgaggpnlimchkaaGreatDoor.T1 Go.Proofs.YtgaggpnlimchkaaGreatDoor.BT Go.Proofs.YtgaggpnlimchkaaGreatDoor.P5 Go.Proofs.YtgaggpnlimchkaaGreatDoor.B5 Go.Proofs.YtgaggpnlimchkaaGreatDoor.P6 Go.Proofs.YtgaggpnlimchkaaGreatDoor.P9 Go.Proofs.YtgaggpnlimchkaaGreatDoor.B6 Go.Proofs.YtgaggpnlimchkaaGreatDoor.B9 Go.Proofs.YtgaggpnlimchkaaGreatDoor.D1 Go.Proofs.YtgaggpnlimchkaaGreatDoor.W8 Go.Proofs.YtgaggpnlimchkaaGreatDoor.RC Go.Proofs.YtgaggpnlimchkaaGreatDoor.RI Go.Proofs.YtgaggpnlimchkaaGreatDoor.P10 Go.Proofs.YtgaggpnlimchkaaGreatDoor.B10 Go.Proofs.YtgaggpnlimchkaaGreatDoor.P11
open Go.ChangeShapes Go.WideShapes Go.ChangeAt Go.RowKit
set_option linter.unusedVariables false

set_option maxRecDepth 20000 in
set_option maxHeartbeats 4000000 in
theorem szPartS_left (xs : List Pv) (left : Nat) (v : Value) (w : World) (h : PtSlc w v xs) (hf : ∀ x ∈ xs, PtFit x) (hleft : left ≤ 1048576) :
    Calls Tryz.prog 37 #[v, .int .i64 (left : Int)] w (Small10 (pts xs) w) := by
  obtain ⟨a, cap, rfl, hnc, hcap, HA0⟩ := h.form
  have HH := Lib.hid h.2
  obtain ⟨n, hn⟩ : ∃ n, xs.length = n := ⟨_, rfl⟩
  have HZ := Lib.hid (show szPts (pts xs) = n + ((pts xs).map szPt).sum by unfold szPts; rw [show (pts xs).length = n by rw [← hn]; simp [pts]])
  rw [hn] at hnc ⊢
  have HN := Lib.hid hn
  have HF := Lib.hid hf
  have HA := Lib.hid HA0
  have hn63 : (n : Int) ≤ 9223372036854775807 := by omega
  have hnc' : (n : Int) ≤ (cap : Int) := by omega
  have hw0 : IntKind.i64.wrap ((left : Int) - (n : Int)) = (left : Int) - (n : Int) := by rw [IntKind.wrap_i64]; omega
  clear h hn hcap hf HA0
  have hl' : (left : Int) ≤ 1048576 := by omega
  by_cases hbig : left < n
  · have hneg : (left : Int) - (n : Int) < 0 := by omega
    go_enter Tryz.func37, Tryz.ntmps37
    go_wp2_with fail
    go_ret
    exact ⟨-1, rfl, by decide, by decide, fun h => absurd h (by decide), Below.refl _ _⟩
  · obtain ⟨L0, eL0⟩ : ∃ L0 : Nat, left - n = L0 := ⟨_, rfl⟩
    have hw0' : IntKind.i64.wrap ((left : Int) - (n : Int)) = (L0 : Int) := by rw [hw0]; omega
    have hL0 : ¬ (L0 : Int) < 0 := by omega
    have HL0 := Lib.hid (show L0 + n = left by omega)
    have hL1 : L0 ≤ 1048576 := by omega
    clear hw0 eL0
    go_enter Tryz.func37, Tryz.ntmps37
    go_wp2_with fail
    go_loopg [1, 5] n (fun kx s1 s5 wr => ∃ (i z : Nat), s1 = .int .i64 (z : Int) ∧ s5 = .int .i64 (i : Int) ∧ kx + i = n ∧ z ≤ 1048576 ∧ Hid (z + n + (((pts xs).take i).map szPt).sum = left) ∧ Below w.heap.size w wr)
    case atStart => exact ⟨0, L0, rfl, rfl, by omega, hL1, Lib.hid (by have := HL0.out; simp; omega), Below.refl _ _⟩
    case round =>
      obtain ⟨i, z, rfl, rfl, hki, hz, I, hB⟩ := hrel
      by_cases hlt : i < n
      · have hlt' : (i : Int) < (n : Int) := by omega
        have i0' : (0 : Int) ≤ (i : Int) := by omega
        obtain ⟨x, hx⟩ : ∃ x, xs[i]? = some x := ⟨_, List.getElem?_eq_getElem (by rw [HN.out]; exact hlt)⟩
        obtain ⟨g, off, rfl, hat⟩ := HA.out (by intro e0; rw [e0] at hx; cases hx)
        have hm := List.mem_of_getElem? hx
        have HLD := Lib.hid (lpt_load (hat.on hB) hx)
        have hpx : (pts xs)[i]? = some x.p := by unfold pts; rw [List.getElem?_map, hx]; rfl
        have HZ1 := Lib.hid (szPart_laws x z wr ((HH.out x hm).on hB) (HF.out x hm) hz)
        have HT := Lib.hid (szPt_take hpx)
        generalize szPt x.p = l at HZ1 HT
        clear hx hat hm hpx
        by_cases hle : l ≤ z
        · rw [leftOf_ok hle] at HZ1
          obtain ⟨y, ey⟩ : ∃ y : Nat, z - l = y := ⟨_, rfl⟩
          rw [ey] at HZ1
          have hy0 : ¬ (y : Int) < 0 := by omega
          have HY := Lib.hid (show y + n + (((pts xs).take (i + 1)).map szPt).sum = left by have := I.out; have := HT.out; omega)
          have hy1 : y ≤ 1048576 := by omega
          clear ey
          go_wp2_with (first | (go_at_call 74; refine HZ1.out.mono ?_; rintro e w2 ⟨rfl, g2⟩) | ((with_reducible refine wp_load_at HLD.out ?_ ?_); exact And.intro rfl (And.intro rfl rfl)))
          go_roundg (n - (i + 1))
          case measure => omega
          case rel => exact ⟨i + 1, y, rfl, by go_num, by omega, hy1, HY, hB.trans (g2.mono hB.size)⟩
        · rw [leftOf_no hle] at HZ1
          go_wp2_with (first | (go_at_call 74; refine HZ1.out.mono ?_; rintro e w2 ⟨rfl, g2⟩) | ((with_reducible refine wp_load_at HLD.out ?_ ?_); exact And.intro rfl (And.intro rfl rfl)))
          go_ret
          exact ⟨-1, rfl, by decide, by decide, fun h => absurd h (by decide), hB.trans (g2.mono hB.size)⟩
      · have hlt' : ¬ (i : Int) < (n : Int) := by omega
        have HE := Lib.hid (show szPts (pts xs) ≤ 1048576 by
          have := I.out
          rw [List.take_of_length_le (by simp [pts]; rw [HN.out]; omega)] at this
          rw [HZ.out]; omega)
        go_wp2_with fail
        go_ret
        exact ⟨(z : Int), rfl, by omega, by omega, fun _ => HE.out, hB⟩

set_option maxRecDepth 20000 in
set_option maxHeartbeats 4000000 in
theorem xmeets_walk (xs : List Fv) (i : Int) (ys : List Pv) (v u : Value) (w : World) (h : FiSlc w v xs) (hf : ∀ x ∈ xs, FiFit x) (hp : PtSlc w u ys) (hpf : ∀ y ∈ ys, PtFit y) (L : B5.Pow w) :
    Calls Tryz.prog 8 #[v, .int .i64 i, u] w (Ans (.bool true) w) := by
  have HA := Lib.hid h
  have HAP := Lib.hid hp
  have HL := Lib.hid L
  have HFF := Lib.hid hf
  have HZ := Lib.hid (szFigureS_laws xs v w h hf)
  have HZP := Lib.hid (fun (W : World) (hb : Below w.heap.size w W) (left : Nat) (hl : left ≤ 1048576) => szPartS_left ys left u W (hp.on hb) hpf hl)
  obtain ⟨a, cap, rfl, _⟩ := h.form
  obtain ⟨a2, cap2, rfl, _⟩ := hp.form
  generalize hm : xs.length = m at *
  generalize hm2 : ys.length = m2 at *
  have HM := Lib.hid hm
  have HM2 := Lib.hid hm2
  clear h hf L hm hm2 hp hpf
  go_enter Tryz.func8, Tryz.ntmps8
  go_wp2_with fail
  refine HZ.out.mono ?_
  rintro e w1 ⟨r, rfl, hr0, hr1, hrs, g1⟩
  by_cases hneg : r < 0
  · go_wp2_with fail
    go_ret
    exact ⟨rfl, g1⟩
  · obtain ⟨left, rfl⟩ : ∃ left : Nat, r = (left : Int) := ⟨r.toNat, by omega⟩
    have HZ2 := Lib.hid (HZP.out w1 g1 left (by omega))
    have HRS := Lib.hid (hrs (by omega))
    have hneg' : ¬ (left : Int) < 0 := by omega
    clear hrs HZ HZP hneg
    go_wp2_with fail
    refine HZ2.out.mono ?_
    rintro e w2 ⟨r2, rfl, hq0, hq1, hqs, g2⟩
    have hB2 := g1.trans (g2.mono g1.size)
    by_cases hneg2 : r2 < 0
    · go_wp2_with fail
      go_ret
      exact ⟨rfl, hB2⟩
    · have hsp := hqs (by omega)
      obtain ⟨hl48, hfit⟩ := fitsF_of HFF.out HRS.out
      have hlen : xs.length ≤ 2000000 := by omega
      have hmem : ∀ (ys : List Fv), fis ys = fis xs → ∀ y ∈ ys, FitsF y := fun ys hy y hm => fitsF_like hfit hy hm
      have hbs : ∀ p ∈ fis xs, p.bs.length ≤ 2000000 ∧ p.ns.length ≤ 2000000 := fitsF_lens hfit
      have hly : ∀ (ys : List Fv), fis ys = fis xs → ys.length = m := fun ys hy => by
        have := congrArg List.length hy
        rw [fis_len, fis_len] at this
        rw [this]; exact HM.out
      have hlenp : ys.length ≤ 2000000 := by
        unfold szPts at hsp
        have : (pts ys).length = ys.length := by simp [pts]
        omega
      have hfitp : ∀ (x : Pv), x.p ∈ pts ys → Fits x := fits_of hsp
      have hbsp : ∀ p ∈ pts ys, p.bs.length ≤ 2000000 := fun p hp => by have h1 : p.bs.length ≤ 1048576 := (hfitp ⟨p, undef⟩ hp).2.2.1; omega
      have hmemp : ∀ (zs : List Pv), pts zs = pts ys → ∀ z ∈ zs, Fits z := fun zs hz z hm => hfitp z (by rw [← hz]; exact List.mem_map.2 ⟨z, hm, rfl⟩)
      have hlyp : ∀ (zs : List Pv), pts zs = pts ys → zs.length = m2 := fun zs hz => by
        have := congrArg List.length hz
        unfold pts at this
        rw [List.length_map, List.length_map] at this
        rw [this]; exact HM2.out
      have HT := Lib.hid (fun w' (hb : Below w.heap.size w w') => toFigureS_laws xs _ w' (HA.out.on hb) (fun x hx => hbs x.f (List.mem_map.2 ⟨x, hx, rfl⟩)) hlen)
      have HTP := Lib.hid (fun w' (hb : Below w.heap.size w w') => toPartS_laws ys _ w' (HAP.out.on hb) (fun x hx => hbsp x.p (List.mem_map.2 ⟨x, hx, rfl⟩)) hlenp)
      have HS := Lib.hid (fun v' zs u' qs w' (hv : FiSlc w' v' zs) (hy : fis zs = fis xs) (hu : PtSlc w' u' qs) (hq : pts qs = pts ys) => by
        have := Meets_spec zs qs i v' u' w' hv (hmem zs hy) (by rw [hly zs hy, ← HM.out]; exact hlen) hu (hmemp qs hq) (by rw [hlyp qs hq, ← HM2.out]; exact hlenp)
        rw [hy, hq] at this
        exact this)
      have HI := Lib.hid (fun v' zs u' qs w' (hb : Below w.heap.size w w') (hv : FiSlc w' v' zs) (hy : fis zs = fis xs) (hu : PtSlc w' u' qs) (hq : pts qs = pts ys) => by
        have := Meets_impl zs qs i v' u' w' (HL.out.on hb) hv (hmem zs hy) (by rw [hly zs hy, ← HM.out]; exact hlen) hu (hmemp qs hq) (by rw [hlyp qs hq, ← HM2.out]; exact hlenp)
        rw [hy, hq] at this
        exact this)
      have HE := Lib.hid (fun v' v2 ys zs w' (hv : FiSlc w' v' ys) (hv2 : FiSlc w' v2 zs) (hy : fis ys = fis xs) (hz : fis zs = fis xs) => eqFigureS_same ys zs v' v2 w' hv hv2 (hy.trans hz.symm) (by rw [hy]; exact hbs) (by rw [hly ys hy, ← HM.out]; exact hlen))
      have HEP := Lib.hid (fun v' v2 qs zs w' (hv : PtSlc w' v' qs) (hv2 : PtSlc w' v2 zs) (hy : pts qs = pts ys) (hz : pts zs = pts ys) => eqPartS_same qs zs v' v2 w' hv hv2 (hy.trans hz.symm) (by rw [hy]; exact hbsp) (by rw [hlyp qs hy, ← HM2.out]; exact hlenp))
      have HY := Lib.hid hly
      have HYP := Lib.hid hlyp
      generalize meets (fis xs) i (pts ys) = y at HS HI
      clear hqs hsp hq0 hq1 hlen hfit hbs hmem hly hl48 hlenp hfitp hbsp hmemp hlyp HZ2
      go_wp2_with fail
      refine (HT.out _ hB2).mono ?_
      rintro e w3 ⟨v1, y1, rfl, hv1, hy1, g3⟩
      have hB3 := hB2.trans (g3.mono hB2.size)
      go_wp2_with fail
      refine (HTP.out _ hB3).mono ?_
      rintro e w4 ⟨u1, q1, rfl, hu1, hq1, g4⟩
      have hB4 := hB3.trans (g4.mono hB3.size)
      go_wp2_with fail
      refine (HS.out _ _ _ _ _ (hv1.on g4) hy1 hu1 hq1).mono ?_
      rintro e w5 ⟨rfl, g5⟩
      have hB5 := hB4.trans (g5.mono hB4.size)
      clear hv1 hu1 HS
      go_wp2_with fail
      refine (HT.out _ hB5).mono ?_
      rintro e w6 ⟨v2, y2, rfl, hv2, hy2, g6⟩
      have hB6 := hB5.trans (g6.mono hB5.size)
      have HV2 := Lib.hid hv2
      have HY2 := Lib.hid hy2
      obtain ⟨a5, c5, rfl, _⟩ := hv2.form
      rw [HY.out y2 hy2]
      rw [HY.out y2 hy2] at HV2
      clear hv2
      go_wp2_with fail
      refine (HTP.out _ hB6).mono ?_
      rintro e w7 ⟨u2, q2, rfl, hu2, hq2, g7⟩
      have hB7 := hB6.trans (g7.mono hB6.size)
      have HU2 := Lib.hid hu2
      have HQ2 := Lib.hid hq2
      obtain ⟨a6, c6, rfl, _⟩ := hu2.form
      rw [HYP.out q2 hq2]
      rw [HYP.out q2 hq2] at HU2
      clear hu2
      have HV7 := Lib.hid (HV2.out.on g7)
      go_wp2_with fail
      refine (HI.out _ _ _ _ _ hB7 HV7.out HY2.out HU2.out HQ2.out).mono ?_
      rintro e w8 ⟨rfl, g8⟩
      have hB8 := hB7.trans (g8.mono hB7.size)
      have HV8 := Lib.hid (HV7.out.on g8)
      have HU8 := Lib.hid (HU2.out.on g8)
      cases y
      all_goals
        go_wp2_with fail
        refine (HT.out _ hB8).mono ?_
        rintro e w9 ⟨v3, y3, rfl, hv3, hy3, g9⟩
        have hB9 := hB8.trans (g9.mono hB8.size)
        go_wp2_with fail
        refine (HE.out _ _ _ _ _ (HV8.out.on g9) hv3 HY2.out hy3).mono ?_
        rintro e w10 ⟨rfl, g10⟩
        have hB10 := hB9.trans (g10.mono hB9.size)
        have HU10 := Lib.hid ((HU8.out.on g9).on g10)
        clear hv3
        go_wp2_with fail
        refine (HTP.out _ hB10).mono ?_
        rintro e w11 ⟨u3, q3, rfl, hu3, hq3, g11⟩
        have hB11 := hB10.trans (g11.mono hB10.size)
        go_wp2_with fail
        refine (HEP.out _ _ _ _ _ (HU10.out.on g11) hu3 HQ2.out hq3).mono ?_
        rintro e w12 ⟨rfl, g12⟩
        go_wp2_with fail
        go_ret
        exact ⟨rfl, hB11.trans (g12.mono hB11.size)⟩

end Go.Proofs.YtgaggpnlimchkaaGreatDoor.B11
