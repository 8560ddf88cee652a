/- FnExactPath's walk. -/
import Derived.Test.YtgaggpnlimchkaaGreatDoorInt11
import Derived.Test.YtgaggpnlimchkaaGreatDoorMarks11
namespace Go.Proofs.YtgaggpnlimchkaaGreatDoor.B11
open Go.Proofs.YtgaggpnlimchkaaGreatDoor.P1 Go.Proofs.YtgaggpnlimchkaaGreatDoor.B1 Go.Proofs.YtgaggpnlimchkaaGreatDoor.B2 Go.Proofs.YtgaggpnlimchkaaGreatDoor.T1 Go.Proofs.YtgaggpnlimchkaaGreatDoor.BT Go.Proofs.YtgaggpnlimchkaaGreatDoor.P5 Go.Proofs.YtgaggpnlimchkaaGreatDoor.B5 Go.Proofs.YtgaggpnlimchkaaGreatDoor.P6 Go.Proofs.YtgaggpnlimchkaaGreatDoor.P9 Go.Proofs.YtgaggpnlimchkaaGreatDoor.B6 Go.Proofs.YtgaggpnlimchkaaGreatDoor.B9 Go.Proofs.YtgaggpnlimchkaaGreatDoor.D1 Go.Proofs.YtgaggpnlimchkaaGreatDoor.W8 Go.Proofs.YtgaggpnlimchkaaGreatDoor.RC Go.Proofs.YtgaggpnlimchkaaGreatDoor.RI Go.Proofs.YtgaggpnlimchkaaGreatDoor.P10 Go.Proofs.YtgaggpnlimchkaaGreatDoor.B10 Go.Proofs.YtgaggpnlimchkaaGreatDoor.P11
open Go.ChangeShapes Go.WideShapes Go.ChangeAt Go.RowKit
set_option linter.unusedVariables false

theorem path_short (t : List Fi) (i : Int) : (path t i).length ≤ t.length := by
  unfold path
  split
  · exact wayUp_len i
  · exact Nat.zero_le _

/-- A copy's rows lie between. -/
theorem rowF_inB {B : Nat} {W : World} {y : Fv} (h : RowF B W y) {C : Nat} (hC : C ≤ B) : InB C W.heap.size y.u ∧ InB C W.heap.size y.n := by
  obtain ⟨bu, bn, e1, e2, h1, h2, _, h4, h5⟩ := h
  rw [e1, e2]
  exact ⟨fun q e => by have : bu = q := Option.some.inj e; have := h4.1; omega, fun q e => by have : bn = q := Option.some.inj e; have := h5.1; omega⟩

set_option maxRecDepth 100000 in
set_option maxHeartbeats 8000000 in
theorem xpath_walk (xs : List Fv) (i : Int) (v : Value) (w : World) (h : FiSlc w v xs) (hf : ∀ x ∈ xs, FiFit x) (L : B5.Pow w) :
    Calls Tryz.prog 7 #[v, .int .i64 i] w (Ans (.bool true) w) := by
  have HA := Lib.hid h
  have HL := Lib.hid L
  have HFF := Lib.hid hf
  have HZ := Lib.hid (szFigureS_laws xs v w h hf)
  obtain ⟨a, cap, rfl, _⟩ := h.form
  clear h hf L
  generalize hm : xs.length = m at *
  have HM := Lib.hid hm
  clear hm
  go_enter Tryz.func7, Tryz.ntmps7
  go_wp2_with fail
  refine HZ.out.mono ?_
  rintro e w1 ⟨r, rfl, hr0, hr1, hrs, g1⟩
  by_cases hneg : r < 0
  · go_wp2_with fail
    go_ret
    exact ⟨rfl, g1⟩
  · have hsm := hrs (by omega)
    obtain ⟨hl48, hfit⟩ := fitsF_of HFF.out hsm
    have hlen : xs.length ≤ 2000000 := by omega
    have hmem : ∀ (ys : List Fv), fis ys = fis xs → ∀ y ∈ ys, FitsF y := fun ys hy y hm => fitsF_like hfit hy hm
    have hbs : ∀ p ∈ fis xs, p.bs.length ≤ 2000000 ∧ p.ns.length ≤ 2000000 := fitsF_lens hfit
    have hbs2 : ∀ (ys : List Fv), fis ys = fis xs → ∀ y ∈ ys, y.f.bs.length ≤ 2000000 ∧ y.f.ns.length ≤ 2000000 := fun ys hy y hm => hbs y.f (by rw [← hy]; exact List.mem_map.2 ⟨y, hm, rfl⟩)
    have hly : ∀ (ys : List Fv), fis ys = fis xs → ys.length = m := fun ys hy => by
      have := congrArg List.length hy
      rw [fis_len, fis_len] at this
      rw [this]; exact HM.out
    have hek : ∀ (ys : List Fv), fis ys = fis xs → 1 ≤ endF 1 ys ∧ endF 1 ys ≤ 9437185 := fun ys hy => by
      have := endF_le 1 ys
      rw [hy] at this
      omega
    have HT := Lib.hid (fun w' (hb : Below w.heap.size w w') => toFigureS_laws xs _ w' (HA.out.on hb) (fun x hx => hbs x.f (List.mem_map.2 ⟨x, hx, rfl⟩)) hlen)
    have HT2 := Lib.hid (fun w' (hb : Below w.heap.size w w') => (by have := toFigureS_blk xs _ w' (HA.out.on hb) (fun x hx => hbs x.f (List.mem_map.2 ⟨x, hx, rfl⟩)) hlen; rw [HM.out] at this; exact this : Calls Tryz.prog 26 #[.slice a m cap] w' fun e w'' => ∃ ys, e = .returned (.slice (some ⟨w'.heap.size, 0, none⟩) m m) ∧ LBlk w'' w'.heap.size (fiRs ys).flatten ∧ (∀ y ∈ ys, RowF (w'.heap.size + 1) w'' y) ∧ ys.Pairwise ApF ∧ fis ys = fis xs ∧ Below w'.heap.size w' w''))
    have HS := Lib.hid (fun v' ys w' (hv : FiSlc w' v' ys) (hy : fis ys = fis xs) => by
      have := Path_spec ys i v' w' hv (hmem ys hy) (by rw [hly ys hy, ← HM.out]; exact hlen)
      rw [hy] at this
      exact this)
    have HI := Lib.hid (fun v' ys w' (hb : Below w.heap.size w w') (hv : FiSlc w' v' ys) (hy : fis ys = fis xs) => by
      have := Path_impl ys i v' w' (HL.out.on hb) hv (hmem ys hy) (by rw [hly ys hy, ← HM.out]; exact hlen)
      rw [hy] at this
      exact this)
    have HE := Lib.hid (fun v' v2 ys zs w' (hv : FiSlc w' v' ys) (hv2 : FiSlc w' v2 zs) (hy : fis ys = fis xs) (hz : fis zs = fis xs) => eqFigureS_same ys zs v' v2 w' hv hv2 (hy.trans hz.symm) (by rw [hy]; exact hbs) (by rw [hly ys hy, ← HM.out]; exact hlen))
    have hll : (path (fis xs) i).length ≤ 1048576 := by
      have := path_short (fis xs) i
      rw [fis_len] at this
      omega
    obtain ⟨l, hl⟩ : ∃ l, path (fis xs) i = l := ⟨_, rfl⟩
    rw [hl] at hll HS HI
    obtain ⟨n, hn⟩ : ∃ n, l.length = n := ⟨_, rfl⟩
    have HQ := Lib.hid (fun (v' v2 : Value) (B B' : Nat) w' (hv : IntRow w' v' B l) (hv2 : IntRow w' v2 B' l) => eqInts_same l v' v2 B B' w' hv hv2 (by omega))
    have HMI := Lib.hid (fun (v' : Value) (B : Nat) w' (hv : IntRow w' v' B l) (hB : B ≤ w'.heap.size) => (by have := markInt64S_laws l v' 1 B w' hv hB (by omega) (by decide) (by decide); rw [hn] at this; exact this : Calls Tryz.prog 35 #[v', .int .i64 1] w' fun e w2 => e = .returned (.int .i64 ((1 + n : Nat) : Int)) ∧ IntRow w2 v' B (marksI 1 n) ∧ Below B w' w2))
    have HHI := Lib.hid (fun (v' : Value) (B : Nat) w' (hv : IntRow w' v' B (marksI 1 n)) => heldInt64S_laws 1 n B v' w' hv (by omega) (Nat.le_refl _) (by decide))
    have HSH := Lib.hid (fun (v' : Value) (B : Nat) w' (hv : IntRow w' v' B l) => (show ∃ a c, v' = .slice a n c from by
      obtain ⟨a, c, e⟩ := intRow_shape hv
      exact ⟨a, c, by rw [e, hn]⟩))
    obtain ⟨K, hK⟩ : ∃ K, 1 + n = K := ⟨_, rfl⟩
    rw [hK] at HMI HHI
    have HKN := Lib.hid hK
    have hKb : K ≤ 1048577 := by omega
    have hK0 : ¬ (K : Int) < 0 := by omega
    have hKK : ((K : Int) != (K : Int)) = false := by simp
    have HMF := Lib.hid (fun (g T : Nat) (ys : List Fv) w' (hg : MG g ys w') (hy : fis ys = fis xs) (hT : g < T) (hU : ∀ y ∈ ys, InB g T y.u ∧ InB g T y.n) => markFigureS_rows ys 1 m g m g T w' (hly ys hy) hg (Nat.le_refl _) (by rw [← HM.out]; exact hlen) (hbs2 ys hy) (by decide) (by have := (hek ys hy).2; omega) ⟨Nat.le_refl _, hT⟩ hU)
    have HEK := Lib.hid hek
    have HBS := Lib.hid hbs2
    have HLY := Lib.hid hly
    clear hrs hsm hr0 hr1 HZ hlen hfit hbs hmem hly hl48 hbs2 hek hll hl hn hK
    unfold PathAns at HS HI
    go_wp2_with fail
    refine (HT.out _ g1).mono ?_
    rintro e w2 ⟨v1, y1, rfl, hv1, hy1, g2⟩
    have hB2 := g1.trans (g2.mono g1.size)
    go_wp2_with fail
    refine (HS.out _ _ _ hv1 hy1).mono ?_
    rintro e w3 ⟨p0, rfl, hp0, g3⟩
    have hB3 := hB2.trans (g3.mono hB2.size)
    obtain ⟨a0, c0, rfl⟩ := HSH.out _ _ _ hp0
    have HP0 := Lib.hid hp0
    clear hv1 hy1 g2 g3 hp0 HS
    go_wp2_with fail
    refine (HT2.out _ hB3).mono ?_
    rintro e w4 ⟨ys, rfl, hlb, hrw, hap, hy, g4⟩
    have hB4 := hB3.trans (g4.mono hB3.size)
    have hmg := MG.of_blk hlb hrw (HBS.out ys hy) hap
    obtain ⟨g, hg⟩ : ∃ g, w3.heap.size = g := ⟨_, rfl⟩
    have HU := Lib.hid (fun y hm => rowF_inB (hrw y hm) (Nat.le_succ g |> fun h => by rw [hg]; exact h))
    have hgl : g < w4.heap.size := by rw [← hg]; exact hlb.1
    have HG := Lib.hid hg
    rw [hg] at hmg ⊢
    have HMG := Lib.hid hmg
    have HGL := Lib.hid hgl
    have HY := Lib.hid hy
    have HSL := Lib.hid (fun w' (hw : Below w4.heap.size w4 w') => (by have := (HMG.out.on hw).slc (cap := m) (by rw [HLY.out ys HY.out]; exact Nat.le_refl _) (by have := HLY.out ys HY.out; have := HLY.out xs rfl; omega); rw [HLY.out ys HY.out] at this; exact this : FiSlc w' (.slice (some ⟨g, 0, none⟩) m m) ys))
    have h34 := g4
    clear hlb hrw hap hy g4 hg hmg hgl
    go_wp2_with fail
    refine (HI.out _ ys _ hB4 (HSL.out w4 (Below.refl _ _)) HY.out).mono ?_
    rintro e w5 ⟨p1, rfl, hp1, g5⟩
    have hB5 := hB4.trans (g5.mono hB4.size)
    have h45 := g5
    have h35 := h34.trans (g5.mono h34.size)
    obtain ⟨a1, c1, rfl⟩ := HSH.out _ _ _ hp1
    have HQ5 := Lib.hid (HQ.out _ _ _ _ w5 hp1 (own_below HP0.out h35))
    clear g5
    go_wp2_with fail
    refine HQ5.out.mono ?_
    rintro e w6 ⟨rfl, g6⟩
    have hB6 := hB5.trans (g6.mono hB5.size)
    have h36 := h35.trans (g6.mono h35.size)
    have h46 := h45.trans (g6.mono h45.size)
    have hp6 := own_below hp1 g6
    clear g6 hp1 h45 h35 HQ5
    go_wp2_with fail
    refine (HT.out _ hB6).mono ?_
    rintro e w7 ⟨v3, y3, rfl, hv3, hy3, g7⟩
    have hB7 := hB6.trans (g7.mono hB6.size)
    have h37 := h36.trans (g7.mono h36.size)
    have h47 := h46.trans (g7.mono h46.size)
    have hp7 := own_below hp6 g7
    have HE7 := Lib.hid (HE.out _ v3 ys y3 w7 (HSL.out w7 h47) hv3 HY.out hy3)
    clear g7 hv3 hy3 hp6 h46 h36
    go_wp2_with fail
    refine HE7.out.mono ?_
    rintro e w8 ⟨rfl, g8⟩
    have hB8 := hB7.trans (g8.mono hB7.size)
    have h38 := h37.trans (g8.mono h37.size)
    have h48 := h47.trans (g8.mono h47.size)
    have hp8 := own_below hp7 g8
    have HMT := Lib.hid (HMF.out g w4.heap.size ys w8 (HMG.out.on h48) HY.out HGL.out HU.out)
    have hek := HEK.out ys HY.out
    obtain ⟨km, ekm⟩ : ∃ km, endF 1 ys = km := ⟨_, rfl⟩
    rw [ekm] at HMT hek
    have hkm : ¬ (km : Int) < 0 := by omega
    clear g8 hp7 h47 h37 HE7 ekm
    go_wp2_with fail
    refine HMT.out.mono ?_
    rintro e w9 ⟨rfl, _, hmid⟩
    have hz38 := h38.size
    have hz3 := hB3.size
    have hbm := hmid.below (show g ≤ w8.heap.size by rw [← HG.out]; exact hz38)
    have hB9 := hB8.trans (hbm.mono (show w.heap.size ≤ g by rw [← HG.out]; exact hz3))
    have h39 := h38.trans (show Below w3.heap.size w8 w9 by rw [HG.out]; exact hbm)
    have hp9 := hmid.row hp8 (Nat.le_refl _)
    have h49 := Nat.le_trans h48.size hmid.size
    have HQ9 := Lib.hid (HQ.out _ _ _ _ w9 hp9 (own_below HP0.out h39))
    clear hmid hbm hp8 h48 h38 HMT hz38 hz3
    go_wp2_with fail
    refine HQ9.out.mono ?_
    rintro e wa ⟨rfl, ga⟩
    have hBa := hB9.trans (ga.mono hB9.size)
    have h3a := h39.trans (ga.mono h39.size)
    have hpa := own_below hp9 ga
    have h4a := Nat.le_trans h49 ga.size
    have HMA := Lib.hid (HMI.out _ _ wa hpa h4a)
    clear ga hp9 h39 HQ9
    go_wp2_with fail
    refine HMA.out.mono ?_
    rintro e wb ⟨rfl, hpb, gb⟩
    have hBb := hBa.trans (gb.mono hB4.size)
    have h3b := h3a.trans (gb.mono h34.size)
    have HHB := Lib.hid (HHI.out _ _ wb hpb)
    have HPB := Lib.hid hpb
    clear gb hpa HMA hpb
    go_wp2_with fail
    refine HHB.out.mono ?_
    rintro e wd ⟨rfl, gd⟩
    have hBd := hBb.trans (gd.mono hBb.size)
    have h3d := h3b.trans (gd.mono h3b.size)
    have HPD := Lib.hid (own_below HPB.out gd)
    clear gd HHB
    go_wp2_with fail
    refine (HT.out _ hBd).mono ?_
    rintro e we ⟨v5, y5, rfl, hv5, hy5, ge⟩
    have hBe := hBd.trans (ge.mono hBd.size)
    have h3e := h3d.trans (ge.mono h3d.size)
    have HPE := Lib.hid (own_below HPD.out ge)
    have HIE := Lib.hid (HI.out _ _ _ hBe hv5 hy5)
    clear ge hv5 hy5
    go_wp2_with fail
    refine HIE.out.mono ?_
    rintro e wf ⟨p2, rfl, hp2, gf⟩
    have hBf := hBe.trans (gf.mono hBe.size)
    have h3f := h3e.trans (gf.mono h3e.size)
    have HPF := Lib.hid (own_below HPE.out gf)
    have HLF := Lib.hid (HQ.out _ _ _ _ wf hp2 (own_below HP0.out h3f))
    obtain ⟨a2, c2, rfl⟩ := HSH.out _ _ _ hp2
    clear hp2 gf HIE
    go_wp2_with fail
    refine HLF.out.mono ?_
    rintro e wg ⟨rfl, gg⟩
    have hBg := hBf.trans (gg.mono hBf.size)
    have HHG := Lib.hid (HHI.out _ _ wg (own_below HPF.out gg))
    clear gg HLF
    go_wp2_with fail
    refine HHG.out.mono ?_
    rintro e wh ⟨rfl, gh⟩
    have hBh := hBg.trans (gh.mono hBg.size)
    go_wp2_with fail
    go_ret
    exact ⟨rfl, hBh⟩

end Go.Proofs.YtgaggpnlimchkaaGreatDoor.B11
