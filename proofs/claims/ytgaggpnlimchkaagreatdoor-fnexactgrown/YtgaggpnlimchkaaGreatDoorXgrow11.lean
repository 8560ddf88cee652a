/- FnExactGrown's walk. -/
import Derived.Test.YtgaggpnlimchkaaGreatDoorGrowX11
namespace Go.Proofs.YtgaggpnlimchkaaGreatDoor.B11
open Go.Proofs.YtgaggpnlimchkaaGreatDoor.P1 Go.Proofs.YtgaggpnlimchkaaGreatDoor.B1 Go.Proofs.YtgaggpnlimchkaaGreatDoor.B2 Go.Proofs.YtgaggpnlimchkaaGreatDoor.T1 Go.Proofs.YtgaggpnlimchkaaGreatDoor.BT Go.Proofs.YtgaggpnlimchkaaGreatDoor.P5 Go.Proofs.YtgaggpnlimchkaaGreatDoor.B5 Go.Proofs.YtgaggpnlimchkaaGreatDoor.P6 Go.Proofs.YtgaggpnlimchkaaGreatDoor.P9 Go.Proofs.YtgaggpnlimchkaaGreatDoor.B6 Go.Proofs.YtgaggpnlimchkaaGreatDoor.B9 Go.Proofs.YtgaggpnlimchkaaGreatDoor.D1 Go.Proofs.YtgaggpnlimchkaaGreatDoor.W8 Go.Proofs.YtgaggpnlimchkaaGreatDoor.RC Go.Proofs.YtgaggpnlimchkaaGreatDoor.RI Go.Proofs.YtgaggpnlimchkaaGreatDoor.P10 Go.Proofs.YtgaggpnlimchkaaGreatDoor.B10 Go.Proofs.YtgaggpnlimchkaaGreatDoor.P11
open Go.ChangeShapes Go.WideShapes Go.ChangeAt Go.RowKit
set_option linter.unusedVariables false

set_option maxRecDepth 100000 in
set_option maxHeartbeats 8000000 in
theorem xgrow_walk (xs : List Fv) (X : Fv) (v : Value) (w : World) (h : FiSlc w v xs) (hf : ∀ x ∈ xs, FiFit x) (hx : HeldF w X) (hfx : FiFit X) (L : B5.Pow w) :
    Calls Tryz.prog 6 #[v, fiV X] w (Ans (.bool true) w) := by
  obtain ⟨W1, eW1⟩ : ∃ W1, w.alloc (.cells (fiL X).toArray 54) = W1 := ⟨_, rfl⟩
  have hB1 : Below w.heap.size w W1 := by rw [← eW1]; exact (Below.refl _ _).alloc (Nat.le_refl _) _
  have hl1 : LBlk W1 w.heap.size (fiL X) := by rw [← eW1]; exact LBlk.new w _ _
  have HA := Lib.hid h
  have HX := Lib.hid hx
  have HL := Lib.hid L
  have HFF := Lib.hid hf
  have HFX := Lib.hid hfx
  have HZ := Lib.hid (szFigureS_laws xs v W1 (h.on hB1) hf)
  have HZX := Lib.hid (fun (W : World) (hb : Below w.heap.size w W) (left : Nat) (hl : left ≤ 1048576) => szFigure_laws X left W (hx.on hb) hfx hl)
  have HL1 := Lib.hid (fun (W : World) (g : Below W1.heap.size W1 W) => load_blk (P := Tryz.prog) (ty := 54) (hl1.below g) lfi_wide)
  have HW := Lib.hid eW1
  obtain ⟨cs, ecs⟩ : ∃ cs, (fiL X).toArray = cs := ⟨_, rfl⟩
  have hE : fiV X = .agg cs := by unfold fiV; rw [ecs]
  have HE0 := Lib.hid hE
  have hL1a := HL1.out
  rw [ecs] at hL1a
  have HL1a := Lib.hid hL1a
  have hW := HW.out
  rw [ecs] at hW
  replace HW := Lib.hid hW
  have hZX := HZX.out
  rw [hE] at hZX
  replace HZX := Lib.hid hZX
  rw [hE]
  obtain ⟨a, cap, rfl, _⟩ := h.form
  clear h hf hx hfx L hl1 eW1 ecs hE hL1a hW hZX
  generalize hm : xs.length = m at *
  have HM := Lib.hid hm
  clear hm
  go_enter Tryz.func6, Tryz.ntmps6
  go_wp2_with fail
  rw [HW.out]
  refine HZ.out.mono ?_
  rintro e w2 ⟨r, rfl, hr0, hr1, hrs, g2⟩
  have w2B := hB1.trans (g2.mono hB1.size)
  by_cases hneg : r < 0
  · go_wp2_with fail
    go_ret
    exact ⟨rfl, w2B⟩
  obtain ⟨left, rfl⟩ : ∃ left : Nat, r = (left : Int) := ⟨r.toNat, by omega⟩
  have HZ2 := Lib.hid (HZX.out w2 w2B left (by omega))
  have HRS := Lib.hid (hrs (by omega))
  have hneg' : ¬ (left : Int) < 0 := by omega
  have HLa2 := Lib.hid (HL1a.out w2 g2)
  have hleft : left ≤ 1048576 := by omega
  clear hrs HZ hneg HZX hr0 hr1
  by_cases hle : ¬ szFi X.f ≤ left
  · rw [leftOf_no hle] at HZ2
    go_wp2_with ((with_reducible refine wp_load_at HLa2.out ?_ ?_); exact And.intro rfl (And.intro rfl rfl))
    refine HZ2.out.mono ?_
    rintro e w3 ⟨rfl, g3⟩
    go_wp2_with fail
    go_ret
    exact ⟨rfl, w2B.trans (g3.mono w2B.size)⟩
  replace hle : szFi X.f ≤ left := Classical.not_not.1 hle
  have HSX := Lib.hid (Nat.le_trans hle hleft)
  rw [leftOf_ok hle] at HZ2
  obtain ⟨y, ey⟩ : ∃ y : Nat, left - szFi X.f = y := ⟨_, rfl⟩
  rw [ey] at HZ2
  have hy0 : ¬ (y : Int) < 0 := by omega
  clear ey hle hleft
  go_wp2_with ((with_reducible refine wp_load_at HLa2.out ?_ ?_); exact And.intro rfl (And.intro rfl rfl))
  refine HZ2.out.mono ?_
  rintro e w3 ⟨rfl, g3⟩
  have w3B := w2B.trans (g3.mono w2B.size)
  have h13 := g2.trans (g3.mono g2.size)
  clear g2 g3 HZ2 HLa2 w2B
  obtain ⟨hl48, hfit⟩ := fitsF_of HFF.out HRS.out
  have hfx := fitsF_one HFX.out HSX.out
  have hbx : X.f.bs.length ≤ 2000000 ∧ X.f.ns.length ≤ 2000000 := ⟨by have h1 : X.f.bs.length ≤ 1048576 := hfx.2.2.2.1; omega, by have h1 : X.f.ns.length ≤ 1048576 := hfx.2.2.2.2.2.1; omega⟩
  have hmem : ∀ (ys : List Fv), fis ys = fis xs → ∀ y ∈ ys, FitsF y := fun ys hy y hm => fitsF_like hfit hy hm
  have hbs : ∀ p ∈ fis xs, p.bs.length ≤ 2000000 ∧ p.ns.length ≤ 2000000 := fitsF_lens hfit
  have hbs2 : ∀ (ys : List Fv), fis ys = fis xs → ∀ y ∈ ys, y.f.bs.length ≤ 2000000 ∧ y.f.ns.length ≤ 2000000 := fun ys hy y hm => hbs y.f (by rw [← hy]; exact List.mem_map.2 ⟨y, hm, rfl⟩)
  have hly : ∀ (ys : List Fv), fis ys = fis xs → ys.length = m := fun ys hy => by
    have := congrArg List.length hy
    rw [fis_len, fis_len] at this
    rw [this]; exact HM.out
  have hmb : m ≤ 1048576 := by rw [← HM.out]; exact hl48
  have hek : ∀ (ys : List Fv), fis ys = fis xs → 1 ≤ endF 1 ys ∧ endF 1 ys ≤ 9437185 := fun ys hy => by
    have := endF_le 1 ys
    rw [hy] at this
    have := HRS.out
    omega
  have hfy : ∀ (y : Fv), y.f = X.f → FitsF y := fun y hy => by unfold FitsF; rw [hy]; exact hfx
  obtain ⟨F, is, hq⟩ : ∃ F is, grown (fis xs) X.f = (F, is) := ⟨_, _, rfl⟩
  have hqs := grown_sz (fis xs) X.f
  have hql := grown_len (fis xs) X.f
  have hqm : ∀ p ∈ (grown (fis xs) X.f).1, p.bs.length ≤ 2000000 ∧ p.ns.length ≤ 2000000 := fun p hp => by
    rcases grown_mem hp with h | h
    · exact hbs p h
    · rw [h]; exact hbx
  rw [hq] at hqs hql hqm
  rw [fis_len, HM.out] at hql
  dsimp only at hqs hql hqm
  have hqz : szFis F ≤ 2097153 := by have := HRS.out; have := HSX.out; omega
  have hqb : ∀ (zs : List Fv), fis zs = F → ∀ z ∈ zs, z.f.bs.length ≤ 2000000 ∧ z.f.ns.length ≤ 2000000 := fun zs hz z hm => hqm z.f (by rw [← hz]; exact List.mem_map.2 ⟨z, hm, rfl⟩)
  have hqn : ∀ (zs : List Fv), fis zs = F → zs.length ≤ 2000000 := fun zs hz => by
    have := congrArg List.length hz
    rw [fis_len] at this
    omega
  have hqe : ∀ (zs : List Fv), fis zs = F → endF 1 zs ≤ 90000000 ∧ 1 ≤ endF 1 zs := fun zs hz => by
    have := endF_le 1 zs
    rw [hz] at this
    omega
  have HT := Lib.hid (fun w' (hb : Below w.heap.size w w') => toFigureS_laws xs _ w' (HA.out.on hb) (fun x hx => hbs x.f (List.mem_map.2 ⟨x, hx, rfl⟩)) (by have := HM.out; omega))
  have HT2 := Lib.hid (fun w' (hb : Below w.heap.size w w') => (by have := toFigureS_blk xs _ w' (HA.out.on hb) (fun x hx => hbs x.f (List.mem_map.2 ⟨x, hx, rfl⟩)) (by have := HM.out; omega); rw [HM.out] at this; exact this : Calls Tryz.prog 26 #[.slice a m cap] w' fun e w'' => ∃ ys, e = .returned (.slice (some ⟨w'.heap.size, 0, none⟩) m m) ∧ LBlk w'' w'.heap.size (fiRs ys).flatten ∧ (∀ y ∈ ys, RowF (w'.heap.size + 1) w'' y) ∧ ys.Pairwise ApF ∧ fis ys = fis xs ∧ Below w'.heap.size w' w''))
  have HTX := Lib.hid (fun w' (hb : Below w.heap.size w w') => toFigure_laws X w' (HX.out.on hb) hbx.1 hbx.2)
  have HTB := Lib.hid (fun w' (hb : Below w.heap.size w w') => (by have := toFigure_blk X w' (HX.out.on hb) hbx.1 hbx.2; rw [HE0.out] at this; exact this : Calls Tryz.prog 29 #[.agg cs] w' fun e w'' => ∃ u n, e = .returned (fiV ⟨X.f, u, n⟩) ∧ RowF w'.heap.size w'' ⟨X.f, u, n⟩ ∧ Below w'.heap.size w' w''))
  have HS := Lib.hid (fun w' v' ys y (hb : Below w.heap.size w w') (hv : FiSlc w' v' ys) (hy : fis ys = fis xs) (hh : HeldF w' y) (hyf : y.f = X.f) => by
    have := Grown_spec ys y v' w' hv (hmem ys hy) (by rw [hly ys hy]; omega) hh (hfy y hyf)
    rw [hy, hyf, hq] at this
    exact this)
  have HI := Lib.hid (fun w' v' ys y (hb : Below w.heap.size w w') (hv : FiSlc w' v' ys) (hy : fis ys = fis xs) (hh : HeldF w' y) (hyf : y.f = X.f) => by
    have := Grown_impl ys y v' w' (HL.out.on hb) hv (hmem ys hy) (by rw [hly ys hy]; omega) hh (hfy y hyf)
    rw [hy, hyf, hq] at this
    exact this)
  have HE := Lib.hid (fun v' v2 ys zs w' (hv : FiSlc w' v' ys) (hv2 : FiSlc w' v2 zs) (hy : fis ys = fis xs) (hz : fis zs = fis xs) => eqFigureS_same ys zs v' v2 w' hv hv2 (hy.trans hz.symm) (by rw [hy]; exact hbs) (by rw [hly ys hy]; omega))
  have HEQ := Lib.hid (fun v' v2 ys zs w' (hv : FiSlc w' v' ys) (hv2 : FiSlc w' v2 zs) (hy : fis ys = F) (hz : fis zs = F) => eqFigureS_same ys zs v' v2 w' hv hv2 (hy.trans hz.symm) (by rw [hy]; exact hqm) (hqn ys hy))
  have HEX := Lib.hid (fun (y z : Fv) w' (hv : HeldF w' y) (hv2 : HeldF w' z) (hy : y.f = X.f) (hz : z.f = X.f) => (show Calls Tryz.prog 30 #[fiV y, fiV z] w' (Ans (.bool true) w') from by
    obtain ⟨f, u, n⟩ := y
    obtain ⟨f', u', n'⟩ := z
    dsimp only at hy hz
    subst hy
    subst hz
    exact eqFigure_same X.f u n u' n' w' hv hv2 hbx.1 hbx.2))
  have HMF := Lib.hid (fun (g T : Nat) (ys : List Fv) w' (hg : MG g ys w') (hy : fis ys = fis xs) (hT : g < T) (hU : ∀ y ∈ ys, InB g T y.u ∧ InB g T y.n) => markFigureS_rows ys 1 m g m g T w' (hly ys hy) hg (Nat.le_refl _) (by omega) (hbs2 ys hy) (by decide) (by have := (hek ys hy).2; omega) ⟨Nat.le_refl _, hT⟩ hU)
  have HMX := Lib.hid (fun (y : Fv) (k B T : Nat) w' (hr : RB y w') (hy : y.f = X.f) (hk1 : 1 ≤ k) (hk2 : k ≤ 9437185) (hU : InB B T y.u ∧ InB B T y.n) => (by have := markFigure_laws y k B T w' hr (by rw [hy]; exact hbx.1) (by rw [hy]; exact hbx.2) hk1 (by omega) hU; rw [hy] at this; exact this : Calls Tryz.prog 32 #[fiV y, .int .i64 (k : Int)] w' fun e w'' => e = .returned (.int .i64 ((k + X.f.bs.length + 9 * X.f.ns.length : Nat) : Int)) ∧ TB w'' y.u (marksS k X.f.bs.length) ∧ NB w'' y.n (marksNo (k + X.f.bs.length) X.f.ns.length) ∧ Mid B T w' w''))
  have HMO := Lib.hid (fun (zs : List Fv) (v' : Value) (B : Nat) w' (ho : OwnG B v' zs w') (hB : B ≤ w'.heap.size) (hz : fis zs = F) => markFigureS_own zs v' B w' ho hB (hqn zs hz) (hqb zs hz) (hqe zs hz).1)
  have HHD := Lib.hid (fun (zs : List Fv) (v' : Value) w' (hv : FiSlc w' v' (markFs 1 zs)) (hz : fis zs = F) => heldFigureS_laws zs 1 zs.length v' w' rfl hv (hqn zs hz) (hqb zs hz) (Nat.le_refl _) (hqe zs hz).1)
  have HQE := Lib.hid hqe
  have HEK := Lib.hid hek
  have HBS := Lib.hid hbs2
  have HLY := Lib.hid hly
  have HBX := Lib.hid hbx
  obtain ⟨N, hN⟩ : ∃ N, F.length = N := ⟨_, rfl⟩
  have HFN := Lib.hid (fun (zs : List Fv) (hz : fis zs = F) => (show zs.length = N from by rw [← hN, ← hz, fis_len]))
  have HLX := Lib.hid (fun (W : World) (hb : Below w3.heap.size w3 W) => (show (loadVar 54 ⟨w.heap.size, 0, none⟩).run Tryz.prog W = .ok (fiV X) W from HL1.out W (h13.trans (hb.mono h13.size))))
  have HLA := Lib.hid (fun (W : World) (hb : Below w3.heap.size w3 W) => HL1a.out W (h13.trans (hb.mono h13.size)))
  clear hl48 hfit hfx hmem hbs hbs2 hly hek hfy hq hqs hql hqm hqz hqb hqn hqe hbx hN HL1 HL1a HRS HSX HFF HFX hy0 hneg'
  go_upto_region 8 with fail
  refine region_joint (by kernel_rfl) (fun L vs W => GX w3 (.slice a m cap) X xs (F, is) L vs W) (none :: none :: none :: none :: none :: none :: some 8 :: some 9 :: none :: none :: none :: none :: none :: none :: none :: none :: none :: none :: none :: none :: none :: none :: none :: none :: none :: none :: none :: some 5 :: some 0 :: some 1 :: some 2 :: some 3 :: some 4 :: some 6 :: some 7 :: none :: none :: none :: none :: none :: none :: none :: none :: none :: none :: none :: none :: none :: none :: none :: none :: none :: none :: none :: none :: none :: none :: none :: none :: none :: none :: none :: none :: none :: none :: none :: none :: none :: none :: none :: none :: none :: none :: none :: none :: none :: none :: none :: none :: none :: none :: none :: none :: none :: none :: none :: none :: none :: none :: none :: none :: none :: none :: none :: none :: none :: none :: none :: none :: none :: none :: none :: none :: none :: none :: none :: none :: none :: none :: none :: none :: none :: none :: none :: none :: none :: none :: none :: none :: []) (by kernel_rfl) (by kernel_rfl) ?_ ?_ ?_
  · exact ⟨⟨rfl, rfl, rfl, Nat.le_refl _, fun _ _ => rfl⟩, fun d => (none_done d).elim, fun d => (none_done d).elim, fun d => (none_done d).elim, fun d => (none_done d).elim, fun d => (none_done d).elim, fun d => (none_done d).elim, fun d => (none_done d).elim, fun d => (none_done d).elim, fun d => (none_done d).elim, fun d => (none_done d).elim, fun d => (none_done d).elim, fun d => (none_done d).elim, fun d => (none_done d).elim⟩
  · intro i hi' L A W hJ hLs hn hb hst
    have hi2 : i < 10 := hi'
    have hcase : i = 0 ∨ i = 1 ∨ i = 2 ∨ i = 3 ∨ i = 4 ∨ i = 5 ∨ i = 6 ∨ i = 7 ∨ i = 8 ∨ i = 9 := by omega
    have hnn : ¬ L[i]?.getD false = true := by rw [hn]; decide
    have hB := w3B.trans (hJ.b.mono w3B.size)
    clear hi' hi2
    rcases hcase with rfl | rfl | rfl | rfl | rfl | rfl | rfl | rfl | rfl | rfl
    · have s0 : A.tmps[0]?.getD undef = .slice a m cap := (hst 0 (by kernel_rfl)).trans rfl
      exact wpOp_of rfl rfl (wp_value (v := .slice a m cap) (W' := W) (by simp [execOp, Act.eval, s0, go_sem]) ⟨_, rfl, fun vs hvs hv => hJ.set (i := 0) hnn hvs (fun _ => hv 28 rfl) (fun e => absurd e (by decide)) (fun e => absurd e (by decide)) (fun e => absurd e (by decide)) (fun e => absurd e (by decide)) (fun e => absurd e (by decide)) (fun e => absurd e (by decide)) (fun e => absurd e (by decide)) (fun e => absurd e (by decide)) (fun e => absurd e (by decide))⟩)
    · have s0 := (hJ.slot (j := 0) (d := 28) (by kernel_rfl)).trans (hJ.h0 (hb 0 (by kernel_rfl)))
      refine wpOp_of rfl rfl (wp_enter (f := 26) (args := #[.slice a m cap]) (by simp [execOp, Act.eval, s0, go_sem]) ?_)
      refine (HT.out W hB).mono ?_
      rintro e w' ⟨v', ys, rfl, hv', hy', g'⟩
      exact ⟨_, rfl, _, rfl, fun vs hvs hv => (hJ.on g').set (i := 1) hnn hvs (fun e => absurd e (by decide)) (fun _ => ⟨ys, by rw [show vl vs 1 = _ from hv 29 rfl]; exact hv', hy'⟩) (fun e => absurd e (by decide)) (fun e => absurd e (by decide)) (fun e => absurd e (by decide)) (fun e => absurd e (by decide)) (fun e => absurd e (by decide)) (fun e => absurd e (by decide)) (fun e => absurd e (by decide)) (fun e => absurd e (by decide))⟩
    · have s3 : A.tmps[3]?.getD undef = .pointer (some ⟨w.heap.size, 0, none⟩) := (hst 3 (by kernel_rfl)).trans rfl
      exact wpOp_of rfl rfl (wp_value (v := fiV X) (W' := W) (by exact exec_load rfl (by simpa [Act.eval] using s3) (HLX.out W hJ.b)) ⟨_, rfl, fun vs hvs hv => hJ.set (i := 2) hnn hvs (fun e => absurd e (by decide)) (fun e => absurd e (by decide)) (fun _ => hv 30 rfl) (fun e => absurd e (by decide)) (fun e => absurd e (by decide)) (fun e => absurd e (by decide)) (fun e => absurd e (by decide)) (fun e => absurd e (by decide)) (fun e => absurd e (by decide)) (fun e => absurd e (by decide))⟩)
    · have s2 := (hJ.slot (j := 2) (d := 30) (by kernel_rfl)).trans (hJ.h2 (hb 2 (by kernel_rfl)))
      refine wpOp_of rfl rfl (wp_enter (f := 29) (args := #[fiV X]) (by simp [execOp, Act.eval, s2, go_sem]) ?_)
      refine (HTX.out W hB).mono ?_
      rintro e w' ⟨u', n', rfl, hx', _, _, g'⟩
      exact ⟨_, rfl, _, rfl, fun vs hvs hv => (hJ.on g').set (i := 3) hnn hvs (fun e => absurd e (by decide)) (fun e => absurd e (by decide)) (fun e => absurd e (by decide)) (fun _ => ⟨⟨X.f, u', n'⟩, hv 31 rfl, hx', rfl⟩) (fun e => absurd e (by decide)) (fun e => absurd e (by decide)) (fun e => absurd e (by decide)) (fun e => absurd e (by decide)) (fun e => absurd e (by decide)) (fun e => absurd e (by decide))⟩
    · obtain ⟨ys, h1, h1f⟩ := hJ.h1 (hb 1 (by kernel_rfl))
      obtain ⟨y, h3, h3h, h3f⟩ := hJ.h3 (hb 3 (by kernel_rfl))
      have s1 := hJ.slot (j := 1) (d := 29) (by kernel_rfl)
      have s3 := (hJ.slot (j := 3) (d := 31) (by kernel_rfl)).trans h3
      refine wpOp_of rfl rfl (wp_enter (f := 14) (args := #[_, fiV y]) (by simp [execOp, Act.eval, s1, s3, go_sem]; rfl) ?_)
      refine (HS.out W _ ys y hB h1 h1f h3h h3f).mono ?_
      rintro e w' ⟨v', b', zs, rfl, ho', hf', hb', g'⟩
      exact ⟨_, rfl, _, rfl, fun vs hvs hv => (hJ.on g').set (i := 4) hnn hvs (fun e => absurd e (by decide)) (fun e => absurd e (by decide)) (fun e => absurd e (by decide)) (fun e => absurd e (by decide)) (fun _ => ⟨v', zs, by rw [← hb']; exact hv 32 rfl, ho'.base hJ.b.size, hf'⟩) (fun e => absurd e (by decide)) (fun e => absurd e (by decide)) (fun e => absurd e (by decide)) (fun e => absurd e (by decide)) (fun e => absurd e (by decide))⟩
    · have hd4 : dn L 4 := hb 4 (by kernel_rfl)
      exact wpOp_of rfl rfl (wp_value (v := A.tmps[32]?.getD undef) (W' := W) (by simp [execOp, Act.eval, go_sem]) ⟨_, rfl, fun vs hvs hv => hJ.set (i := 5) hnn hvs (fun e => absurd e (by decide)) (fun e => absurd e (by decide)) (fun e => absurd e (by decide)) (fun e => absurd e (by decide)) (fun e => absurd e (by decide)) (fun _ => ⟨hd4, (hv 27 rfl).trans (hJ.slot (j := 4) (d := 32) (by kernel_rfl))⟩) (fun e => absurd e (by decide)) (fun e => absurd e (by decide)) (fun e => absurd e (by decide)) (fun e => absurd e (by decide))⟩)
    · have hd5 : dn L 5 := hb 5 (by kernel_rfl)
      obtain ⟨v4, zs, h4, _, _⟩ := hJ.h4 (hJ.c54 hd5)
      have s5 := ((hJ.slot (j := 5) (d := 27) (by kernel_rfl)).trans (hJ.h5 hd5)).trans h4
      exact wpOp_of rfl rfl (wp_value (v := v4) (W' := W) (by simp [execOp, Act.eval, s5, go_sem]) ⟨_, rfl, fun vs hvs hv => hJ.set (i := 6) hnn hvs (fun e => absurd e (by decide)) (fun e => absurd e (by decide)) (fun e => absurd e (by decide)) (fun e => absurd e (by decide)) (fun e => absurd e (by decide)) (fun e => absurd e (by decide)) (fun _ => ⟨hd5, by rw [show vl vs 6 = _ from hv 33 rfl]; exact h4⟩) (fun e => absurd e (by decide)) (fun e => absurd e (by decide)) (fun e => absurd e (by decide))⟩)
    · have hd5 : dn L 5 := hb 5 (by kernel_rfl)
      obtain ⟨v4, zs, h4, _, _⟩ := hJ.h4 (hJ.c54 hd5)
      have s5 := ((hJ.slot (j := 5) (d := 27) (by kernel_rfl)).trans (hJ.h5 hd5)).trans h4
      exact wpOp_of rfl rfl (wp_value (v := .bool (F, is).2) (W' := W) (by simp [execOp, Act.eval, s5, go_sem]) ⟨_, rfl, fun vs hvs hv => hJ.set (i := 7) hnn hvs (fun e => absurd e (by decide)) (fun e => absurd e (by decide)) (fun e => absurd e (by decide)) (fun e => absurd e (by decide)) (fun e => absurd e (by decide)) (fun e => absurd e (by decide)) (fun e => absurd e (by decide)) (fun _ => hv 34 rfl) (fun e => absurd e (by decide)) (fun e => absurd e (by decide))⟩)
    · have hd6 : dn L 6 := hb 6 (by kernel_rfl)
      exact wpOp_of rfl rfl (wp_value (v := A.tmps[33]?.getD undef) (W' := W) (by simp [execOp, Act.eval, go_sem]) ⟨_, rfl, fun vs hvs hv => hJ.set (i := 8) hnn hvs (fun e => absurd e (by decide)) (fun e => absurd e (by decide)) (fun e => absurd e (by decide)) (fun e => absurd e (by decide)) (fun e => absurd e (by decide)) (fun e => absurd e (by decide)) (fun e => absurd e (by decide)) (fun e => absurd e (by decide)) (fun _ => ⟨hd6, (hv 6 rfl).trans (hJ.slot (j := 6) (d := 33) (by kernel_rfl))⟩) (fun e => absurd e (by decide))⟩)
    · have s7 := (hJ.slot (j := 7) (d := 34) (by kernel_rfl)).trans (hJ.h7 (hb 7 (by kernel_rfl)))
      exact wpOp_of rfl rfl (wp_value (v := .bool (F, is).2) (W' := W) (by simp [execOp, Act.eval, s7, go_sem]) ⟨_, rfl, fun vs hvs hv => hJ.set (i := 9) hnn hvs (fun e => absurd e (by decide)) (fun e => absurd e (by decide)) (fun e => absurd e (by decide)) (fun e => absurd e (by decide)) (fun e => absurd e (by decide)) (fun e => absurd e (by decide)) (fun e => absurd e (by decide)) (fun e => absurd e (by decide)) (fun e => absurd e (by decide)) (fun _ => hv 7 rfl)⟩)
  · intro L w4 vs hall hJ
    obtain ⟨zs0, h0o, h0f, h0b⟩ := hJ.done (fun j hj => hall j hj)
    dsimp only at h0f h0b
    obtain ⟨a0, c0, h0e⟩ := h0o.form
    rw [HFN.out zs0 h0f] at h0e
    rw [h0e] at h0o
    have w4B := w3B.trans (hJ.b.mono w3B.size)
    have HO0 := Lib.hid h0o
    have HF0 := Lib.hid h0f
    have h34 := hJ.b
    have hisis : (is != is) = false := by simp
    unfold vl at h0e h0b
    clear hJ hall h0o h0f HS
    simp only [RI.mergeL]
    rw [h0e, h0b]
    generalize vs[0]?.getD undef = z0
    generalize vs[1]?.getD undef = z1
    generalize vs[2]?.getD undef = z2
    generalize vs[3]?.getD undef = z3
    generalize vs[4]?.getD undef = z4
    generalize vs[5]?.getD undef = z5
    generalize vs[6]?.getD undef = z6
    generalize vs[7]?.getD undef = z7
    clear h0e h0b vs
    go_wp2_with fail
    refine (HT2.out _ w4B).mono ?_
    rintro e w5 ⟨ys, rfl, hlb, hrw, hap, hy, g5⟩
    have w5B := w4B.trans (g5.mono w4B.size)
    have h35 := h34.trans (g5.mono h34.size)
    have hmg := MG.of_blk hlb hrw (HBS.out ys hy) hap
    obtain ⟨g, hg⟩ : ∃ g, w4.heap.size = g := ⟨_, rfl⟩
    have HU := Lib.hid (fun y hm => rowF_inB2 ((hrw y hm).base (show g ≤ w4.heap.size + 1 by omega)))
    have hgl : g < w5.heap.size := by rw [← hg]; exact hlb.1
    have HG := Lib.hid hg
    rw [hg] at hmg ⊢
    have HMG := Lib.hid hmg
    have HGL := Lib.hid hgl
    have HY := Lib.hid hy
    have HSL := Lib.hid (fun w' (hw : Below w5.heap.size w5 w') => (by have := (HMG.out.on hw).slc (cap := m) (by rw [HLY.out ys HY.out]; exact Nat.le_refl _) (by omega); rw [HLY.out ys HY.out] at this; exact this : FiSlc w' (.slice (some ⟨g, 0, none⟩) m m) ys))
    have h45 := g5
    have HLA5 := Lib.hid (HLA.out w5 h35)
    clear hlb hrw hap hy g5 hg hmg hgl
    go_wp2_with ((with_reducible refine wp_load_at HLA5.out ?_ ?_); exact And.intro rfl (And.intro rfl rfl))
    refine (HTB.out _ w5B).mono ?_
    rintro e w6 ⟨u1, n1, rfl, hrY, g6⟩
    have w6B := w5B.trans (g6.mono w5B.size)
    have h36 := h35.trans (g6.mono h35.size)
    have h46 := h45.trans (g6.mono h45.size)
    have h56 := g6
    obtain ⟨Y, hYe⟩ : ∃ Y : Fv, (⟨X.f, u1, n1⟩ : Fv) = Y := ⟨_, rfl⟩
    have hYf : Y.f = X.f := by rw [← hYe]
    rw [hYe] at hrY ⊢
    have hYb : Y.f.bs.length ≤ 2000000 ∧ Y.f.ns.length ≤ 2000000 := by rw [hYf]; exact HBX.out
    have HYF := Lib.hid hYf
    have HYB := Lib.hid hYb
    obtain ⟨w7, hst7, hl7, g7⟩ := fi_laid w6 (hrY.held hYb.1 hYb.2)
    have HST := Lib.hid hst7
    have HRY := Lib.hid hrY
    have HUY := Lib.hid (rowF_inB2 hrY)
    have w7B := w6B.trans (g7.mono w6B.size)
    have h37 := h36.trans (g7.mono h36.size)
    have h47 := h46.trans (g7.mono h46.size)
    have h57 := h56.trans (g7.mono h56.size)
    have h67 := g7
    have HZ56 := Lib.hid h56.size
    have HZ67 := Lib.hid g7.size
    have h34w := Lib.hid h34.size
    have HWG := Lib.hid w4B.size
    have HLY7 := Lib.hid (show (loadVar 28 ⟨w6.heap.size, 0, none⟩).run Tryz.prog w7 = .ok (fiV Y) w7 from load_blk hl7 fi_wide)
    have hls7 := hl7.1
    obtain ⟨b9, hb9⟩ : ∃ b9, w6.heap.size = b9 := ⟨_, rfl⟩
    have hl9 := hl7
    rw [hb9] at hl9 hls7
    have HL9 := Lib.hid hl9
    have HB9 := Lib.hid hb9
    have HI7 := Lib.hid (HI.out w7 _ ys Y w7B (HSL.out w7 h57) HY.out ((hrY.on g7).held hYb.1 hYb.2) hYf)
    clear hst7 hl7 hl9 g7 g6 hYe hrY hYb hYf h56 h36 h35 h34 h46 h45 w3B w4B w5B w6B h13 hb9
    go_wp2_with (first | ((with_reducible refine wp_load_at HLY7.out ?_ ?_); exact And.intro rfl (And.intro rfl rfl)) | ((with_reducible refine wp_store_at HST.out ?_ ?_); exact And.intro rfl (And.intro rfl (And.intro rfl rfl))))
    rw [HB9.out]
    refine HI7.out.mono ?_
    rintro e w8 ⟨vG, bG, zs, rfl, hoG, hfG, hbG, g8⟩
    dsimp only at hfG hbG
    subst hbG
    obtain ⟨aG, cG, heG⟩ := hoG.form
    rw [HFN.out zs hfG] at heG
    subst heG
    have w8B := w7B.trans (g8.mono w7B.size)
    have h38 := h37.trans (g8.mono h37.size)
    have h48 := h47.trans (g8.mono h47.size)
    have h58 := h57.trans (g8.mono h57.size)
    have h68 := h67.trans (g8.mono h67.size)
    have h78 := g8
    have HFG := Lib.hid hfG
    have HE8 := Lib.hid (HEQ.out _ _ zs zs0 w8 hoG.slc (HO0.out.on h48).slc hfG HF0.out)
    clear hfG g8 HI7 HLY7 HST HLA5 w7B h37 h47 h57 h67
    go_wp2_with fail
    refine HE8.out.mono ?_
    rintro e w9 ⟨rfl, g9⟩
    have w9B := w8B.trans (g9.mono w8B.size)
    have h39 := h38.trans (g9.mono h38.size)
    have h49 := h48.trans (g9.mono h48.size)
    have h59 := h58.trans (g9.mono h58.size)
    have h69 := h68.trans (g9.mono h68.size)
    have h79 := h78.trans (g9.mono h78.size)
    have hoG9 := hoG.on g9
    clear g9 hoG HE8 w8B h38 h48 h58 h68 h78
    go_wp2_with fail
    refine (HT.out _ w9B).mono ?_
    rintro e wa ⟨v3, y3, rfl, hv3, hy3, ga⟩
    have waB := w9B.trans (ga.mono w9B.size)
    have h3a := h39.trans (ga.mono h39.size)
    have h4a := h49.trans (ga.mono h49.size)
    have h5a := h59.trans (ga.mono h59.size)
    have h6a := h69.trans (ga.mono h69.size)
    have h7a := h79.trans (ga.mono h79.size)
    have hoGa := hoG9.on ga
    have HEa := Lib.hid (HE.out _ v3 ys y3 wa (HSL.out wa h5a) hv3 HY.out hy3)
    clear ga hv3 hy3 hoG9 w9B h39 h49 h59 h69 h79
    go_wp2_with fail
    refine HEa.out.mono ?_
    rintro e wb ⟨rfl, gb⟩
    have wbB := waB.trans (gb.mono waB.size)
    have h3b := h3a.trans (gb.mono h3a.size)
    have h4b := h4a.trans (gb.mono h4a.size)
    have h5b := h5a.trans (gb.mono h5a.size)
    have h6b := h6a.trans (gb.mono h6a.size)
    have h7b := h7a.trans (gb.mono h7a.size)
    have hoGb := hoGa.on gb
    have HLYb := Lib.hid (fun (W : World) (hb : Below wb.heap.size wb W) => (show (loadVar 28 ⟨b9, 0, none⟩).run Tryz.prog W = .ok (fiV Y) W from load_blk (HL9.out.below (h7b.trans (hb.mono h7b.size))) fi_wide))
    have HLXb := Lib.hid (fun (W : World) (hb : Below wb.heap.size wb W) => HLX.out W (h3b.trans (hb.mono h3b.size)))
    have HHYb := Lib.hid (fun (W : World) (hb : Below wb.heap.size wb W) => (HRY.out.on (h6b.trans (hb.mono h6b.size))).held HYB.out.1 HYB.out.2)
    clear gb hoGa HEa waB h3a h4a h5a h6a h7a
    go_upto_region 16 with fail
    have hkeep : ∀ (W w' : World), Below W.heap.size W w' → ∀ (i : Nat) (v : Value), i < 5 → (fun (j : Nat) (v : Value) (W : World) => match j with | 0 => (v = fiV Y) | 1 => (v = fiV X) | 2 => (∃ u n, v = fiV ⟨X.f, u, n⟩ ∧ (HeldF W ⟨X.f, u, n⟩)) | 3 => (v = .bool true) | 4 => (v = .bool false) | _ => True) i v W → (fun (j : Nat) (v : Value) (W : World) => match j with | 0 => (v = fiV Y) | 1 => (v = fiV X) | 2 => (∃ u n, v = fiV ⟨X.f, u, n⟩ ∧ (HeldF W ⟨X.f, u, n⟩)) | 3 => (v = .bool true) | 4 => (v = .bool false) | _ => True) i v w' := by
      intro W w' hb' i v hi h
      have hcase : i = 0 ∨ i = 1 ∨ i = 2 ∨ i = 3 ∨ i = 4 := by omega
      clear hi
      rcases hcase with rfl | rfl | rfl | rfl | rfl
      · exact h
      · exact h
      · obtain ⟨u, n, e, hx⟩ := h; exact ⟨u, n, e, hx.on hb'⟩
      · exact h
      · exact h
    refine region_free2 (by kernel_rfl) (fun (j : Nat) (v : Value) (W : World) => match j with | 0 => (v = fiV Y) | 1 => (v = fiV X) | 2 => (∃ u n, v = fiV ⟨X.f, u, n⟩ ∧ (HeldF W ⟨X.f, u, n⟩)) | 3 => (v = .bool true) | 4 => (v = .bool false) | _ => True) (fun W => Below wb.heap.size wb W) (none :: none :: none :: none :: none :: none :: none :: none :: none :: none :: none :: none :: none :: none :: none :: none :: none :: none :: none :: none :: none :: none :: none :: none :: none :: none :: none :: none :: none :: none :: none :: none :: none :: none :: none :: none :: none :: none :: none :: none :: none :: none :: none :: none :: none :: none :: none :: none :: none :: none :: none :: none :: none :: none :: none :: none :: none :: none :: none :: some 0 :: some 1 :: some 2 :: some 3 :: some 4 :: none :: none :: none :: none :: none :: none :: none :: none :: none :: none :: none :: none :: none :: none :: none :: none :: none :: none :: none :: none :: none :: none :: none :: none :: none :: none :: none :: none :: none :: none :: none :: none :: none :: none :: none :: none :: none :: none :: none :: none :: none :: none :: none :: none :: none :: none :: none :: none :: none :: none :: none :: none :: none :: none :: none :: []) (by kernel_rfl) (by kernel_rfl) (⟨rfl, rfl, rfl, Nat.le_refl _, fun _ _ => rfl⟩) ?_ ?_
    · intro i hi A W hB hst hun hA
      have hi2 : i < 5 := hi
      have hcase : i = 0 ∨ i = 1 ∨ i = 2 ∨ i = 3 ∨ i = 4 := by omega
      clear hi hi2
      rcases hcase with rfl | rfl | rfl | rfl | rfl
      · have s9 : A.tmps[9]?.getD undef = .pointer (some ⟨b9, 0, none⟩) := (hst 9 (by kernel_rfl)).trans rfl
        exact wpOp_of rfl rfl (wp_value (v := fiV Y) (W' := W) (by exact exec_load rfl (by simpa [Act.eval] using s9) (HLYb.out W hB)) ⟨_, rfl, hB, rfl, fun _ _ _ h => h⟩)
      · have s3 : A.tmps[3]?.getD undef = .pointer (some ⟨w.heap.size, 0, none⟩) := (hst 3 (by kernel_rfl)).trans rfl
        exact wpOp_of rfl rfl (wp_value (v := fiV X) (W' := W) (by exact exec_load rfl (by simpa [Act.eval] using s3) (HLXb.out W hB)) ⟨_, rfl, hB, rfl, fun _ _ _ h => h⟩)
      · have s60 : A.tmps[60]?.getD undef = fiV X := hA 1 60 (by kernel_rfl) (by kernel_rfl)
        refine wpOp_of rfl rfl (wp_enter (f := 29) (args := #[fiV X]) (by simp [execOp, Act.eval, s60, go_sem]) ?_)
        refine (HTX.out W (wbB.trans (hB.mono wbB.size))).mono ?_
        rintro e w' ⟨u, n, rfl, hr, _, _, hb'⟩
        exact ⟨_, rfl, _, rfl, hB.trans (hb'.mono hB.size), ⟨u, n, rfl, hr⟩, hkeep W _ hb'⟩
      · have s59 : A.tmps[59]?.getD undef = fiV Y := hA 0 59 (by kernel_rfl) (by kernel_rfl)
        obtain ⟨u, n, s61, h61⟩ : ∃ u n, A.tmps[61]?.getD undef = fiV ⟨X.f, u, n⟩ ∧ (HeldF W ⟨X.f, u, n⟩) := hA 2 61 (by kernel_rfl) (by kernel_rfl)
        refine wpOp_of rfl rfl (wp_enter (f := 30) (args := #[fiV Y, fiV ⟨X.f, u, n⟩]) (by simp [execOp, Act.eval, s59, s61, go_sem]) ?_)
        refine (HEX.out Y ⟨X.f, u, n⟩ W (HHYb.out W hB) h61 HYF.out rfl).mono ?_
        rintro e w' ⟨rfl, hb'⟩
        exact ⟨_, rfl, _, rfl, hB.trans (hb'.mono hB.size), rfl, hkeep W _ hb'⟩
      · have s62 : A.tmps[62]?.getD undef = .bool true := hA 3 62 (by kernel_rfl) (by kernel_rfl)
        exact wpOp_of rfl rfl (wp_value (v := .bool false) (W' := W) (by simp [execOp, Act.eval, s62, go_sem]) ⟨_, rfl, hB, rfl, fun _ _ _ h => h⟩)
    intro wR vs hR hfs
    have e0 : vs[0]?.getD undef = fiV Y := hfs 0 59 (by kernel_rfl)
    have e1 : vs[1]?.getD undef = fiV X := hfs 1 60 (by kernel_rfl)
    obtain ⟨u2, n2, e2, f2⟩ : ∃ u n, vs[2]?.getD undef = fiV ⟨X.f, u, n⟩ ∧ (HeldF wR ⟨X.f, u, n⟩) := hfs 2 61 (by kernel_rfl)
    have e3 : vs[3]?.getD undef = .bool true := hfs 3 62 (by kernel_rfl)
    have e4 : vs[4]?.getD undef = .bool false := hfs 4 63 (by kernel_rfl)
    simp only [RI.mergeL, e0, e1, e2, e3, e4]
    clear hfs hkeep e0 e1 e2 e3 e4
    have wRB := wbB.trans (hR.mono wbB.size)
    have h3R := h3b.trans (hR.mono h3b.size)
    have h4R := h4b.trans (hR.mono h4b.size)
    have h5R := h5b.trans (hR.mono h5b.size)
    have h6R := h6b.trans (hR.mono h6b.size)
    have h7R := h7b.trans (hR.mono h7b.size)
    have hoGR := hoGb.on hR
    have HMT := Lib.hid (HMF.out g w5.heap.size ys wR (HMG.out.on h5R) HY.out HGL.out HU.out)
    have hek := HEK.out ys HY.out
    obtain ⟨km, ekm⟩ : ∃ km, endF 1 ys = km := ⟨_, rfl⟩
    rw [ekm] at HMT hek
    clear hR hoGb wbB h3b h4b h5b h6b h7b HLYb HLXb HHYb ekm
    go_wp2_with fail
    refine HMT.out.mono ?_
    rintro e wc ⟨rfl, _, hmid⟩
    have hz4 := h4R.size
    have hz3 := h34w
    have hbm := hmid.below (show g ≤ wR.heap.size by rw [← HG.out]; exact hz4)
    have hg4 : g = w4.heap.size := HG.out.symm
    have h56z := HZ56.out
    have h67z := HZ67.out
    have wcB := wRB.trans (hbm.mono (show w.heap.size ≤ g by rw [hg4]; exact HWG.out))
    have h3c := h3R.trans (hbm.mono (show w3.heap.size ≤ g by rw [hg4]; exact hz3.out))
    have h4c := h4R.trans (hbm.mono (show w4.heap.size ≤ g by rw [hg4]; exact Nat.le_refl _))
    have hoGc := hmid.ownG hoGR (Nat.le_trans h56z h67z)
    have hrYc := hmid.rowF (HRY.out.on h6R) (Nat.le_refl _)
    have hl9c := hmid.lblk (HL9.out.below h7R) (Or.inr (show w5.heap.size ≤ b9 by rw [← HB9.out]; exact h56z))
    have hzc := Nat.le_trans h7R.size hmid.size
    have HLYc := Lib.hid (show (loadVar 28 ⟨b9, 0, none⟩).run Tryz.prog wc = .ok (fiV Y) wc from load_blk hl9c fi_wide)
    have HMXc := Lib.hid (HMX.out Y km w5.heap.size w6.heap.size wc (hrYc.rb HYB.out.1 HYB.out.2) HYF.out hek.1 hek.2 HUY.out)
    obtain ⟨k2, ek2⟩ : ∃ k2, km + X.f.bs.length + 9 * X.f.ns.length = k2 := ⟨_, rfl⟩
    rw [ek2] at HMXc
    have hk2 : ¬ (k2 : Int) < 0 := by omega
    have h5z : w5.heap.size ≤ wc.heap.size := Nat.le_trans h5R.size hmid.size
    clear hmid hbm hoGR hrYc hl9c wRB h3R h4R h5R h6R h7R HMT hz4 ek2
    go_wp2_with ((with_reducible refine wp_load_at HLYc.out ?_ ?_); exact And.intro rfl (And.intro rfl rfl))
    refine HMXc.out.mono ?_
    rintro e wd ⟨rfl, _, _, hmid⟩
    have hbm := hmid.below h5z
    have hg5 : w4.heap.size ≤ w5.heap.size := by have := HGL.out; omega
    have wdB := wcB.trans (hbm.mono (show w.heap.size ≤ w5.heap.size from Nat.le_trans HWG.out hg5))
    have h3d := h3c.trans (hbm.mono (show w3.heap.size ≤ w5.heap.size from Nat.le_trans hz3.out hg5))
    have h4d := h4c.trans (hbm.mono hg5)
    have hoGd := hmid.ownG hoGc h67z
    have hzd := Nat.le_trans hzc hmid.size
    have HEd := Lib.hid (HEQ.out _ _ zs zs0 wd hoGd.slc (HO0.out.on h4d).slc HFG.out HF0.out)
    clear hmid hbm hoGc wcB h3c h4c HMXc HLYc h5z hzc
    go_wp2_with fail
    refine HEd.out.mono ?_
    rintro e we ⟨rfl, ge⟩
    have weB := wdB.trans (ge.mono wdB.size)
    have h3e := h3d.trans (ge.mono h3d.size)
    have h4e := h4d.trans (ge.mono h4d.size)
    have hoGe := hoGd.on ge
    have hze := Nat.le_trans hzd ge.size
    have HMOe := Lib.hid (HMO.out zs _ w7.heap.size we hoGe hze HFG.out)
    have hqk := HQE.out zs HFG.out
    have HHDz := Lib.hid (fun (v' : Value) w' (hv : FiSlc w' v' (markFs 1 zs)) => HHD.out zs v' w' hv HFG.out)
    obtain ⟨K, eK⟩ : ∃ K, endF 1 zs = K := ⟨_, rfl⟩
    rw [eK] at HMOe hqk HHDz
    have hK0 : ¬ (K : Int) < 0 := by omega
    have hKK : ((K : Int) != (K : Int)) = false := by simp
    clear ge hoGd wdB h3d h4d HEd hzd eK
    go_wp2_with fail
    refine HMOe.out.mono ?_
    rintro e wf ⟨rfl, hsf, gf⟩
    have h37z : w3.heap.size ≤ w7.heap.size := Nat.le_trans hz3.out (Nat.le_trans hg5 (Nat.le_trans h56z h67z))
    have wfB := weB.trans (gf.mono (Nat.le_trans HWG.out (Nat.le_trans hg5 (Nat.le_trans h56z h67z))))
    have h3f := h3e.trans (gf.mono h37z)
    have h4f := h4e.trans (gf.mono (Nat.le_trans hg5 (Nat.le_trans h56z h67z)))
    have HHDf := Lib.hid (HHDz.out _ wf hsf)
    clear gf hoGe weB h3e h4e HMOe hze
    go_wp2_with fail
    refine HHDf.out.mono ?_
    rintro e wk ⟨rfl, gk⟩
    have wkB := wfB.trans (gk.mono wfB.size)
    have h3k := h3f.trans (gk.mono h3f.size)
    have h4k := h4f.trans (gk.mono h4f.size)
    have HSK := Lib.hid (hsf.on gk)
    clear gk hsf wfB h3f h4f HHDf
    go_upto_region 31 with fail
    refine region_joint (by kernel_rfl) (fun L vs W => GX wk (.slice a m cap) X xs (F, bG) L vs W) (none :: none :: none :: none :: none :: none :: none :: none :: none :: none :: none :: none :: none :: none :: none :: some 8 :: some 9 :: none :: none :: none :: none :: none :: none :: none :: none :: none :: none :: none :: none :: none :: none :: none :: none :: none :: none :: none :: none :: none :: none :: none :: none :: none :: none :: none :: none :: none :: none :: none :: none :: none :: none :: none :: none :: none :: none :: none :: none :: none :: none :: none :: none :: none :: none :: none :: none :: none :: none :: none :: none :: none :: none :: none :: none :: none :: none :: none :: none :: none :: none :: none :: none :: none :: none :: none :: none :: none :: none :: none :: none :: none :: none :: none :: none :: none :: some 5 :: some 0 :: some 1 :: some 2 :: some 3 :: some 4 :: some 6 :: some 7 :: none :: none :: none :: none :: none :: none :: none :: none :: none :: none :: none :: none :: none :: none :: none :: none :: none :: []) (by kernel_rfl) (by kernel_rfl) ?_ ?_ ?_
    · exact ⟨⟨rfl, rfl, rfl, Nat.le_refl _, fun _ _ => rfl⟩, fun d => (none_done d).elim, fun d => (none_done d).elim, fun d => (none_done d).elim, fun d => (none_done d).elim, fun d => (none_done d).elim, fun d => (none_done d).elim, fun d => (none_done d).elim, fun d => (none_done d).elim, fun d => (none_done d).elim, fun d => (none_done d).elim, fun d => (none_done d).elim, fun d => (none_done d).elim, fun d => (none_done d).elim⟩
    · intro i hi' L A W hJ hLs hn hb hst
      have hi2 : i < 10 := hi'
      have hcase : i = 0 ∨ i = 1 ∨ i = 2 ∨ i = 3 ∨ i = 4 ∨ i = 5 ∨ i = 6 ∨ i = 7 ∨ i = 8 ∨ i = 9 := by omega
      have hnn : ¬ L[i]?.getD false = true := by rw [hn]; decide
      have hB := wkB.trans (hJ.b.mono wkB.size)
      clear hi' hi2
      rcases hcase with rfl | rfl | rfl | rfl | rfl | rfl | rfl | rfl | rfl | rfl
      · have s0 : A.tmps[0]?.getD undef = .slice a m cap := (hst 0 (by kernel_rfl)).trans rfl
        exact wpOp_of rfl rfl (wp_value (v := .slice a m cap) (W' := W) (by simp [execOp, Act.eval, s0, go_sem]) ⟨_, rfl, fun vs hvs hv => hJ.set (i := 0) hnn hvs (fun _ => hv 95 rfl) (fun e => absurd e (by decide)) (fun e => absurd e (by decide)) (fun e => absurd e (by decide)) (fun e => absurd e (by decide)) (fun e => absurd e (by decide)) (fun e => absurd e (by decide)) (fun e => absurd e (by decide)) (fun e => absurd e (by decide)) (fun e => absurd e (by decide))⟩)
      · have s0 := (hJ.slot (j := 0) (d := 95) (by kernel_rfl)).trans (hJ.h0 (hb 0 (by kernel_rfl)))
        refine wpOp_of rfl rfl (wp_enter (f := 26) (args := #[.slice a m cap]) (by simp [execOp, Act.eval, s0, go_sem]) ?_)
        refine (HT.out W hB).mono ?_
        rintro e w' ⟨v', ys, rfl, hv', hy', g'⟩
        exact ⟨_, rfl, _, rfl, fun vs hvs hv => (hJ.on g').set (i := 1) hnn hvs (fun e => absurd e (by decide)) (fun _ => ⟨ys, by rw [show vl vs 1 = _ from hv 96 rfl]; exact hv', hy'⟩) (fun e => absurd e (by decide)) (fun e => absurd e (by decide)) (fun e => absurd e (by decide)) (fun e => absurd e (by decide)) (fun e => absurd e (by decide)) (fun e => absurd e (by decide)) (fun e => absurd e (by decide)) (fun e => absurd e (by decide))⟩
      · have s3 : A.tmps[3]?.getD undef = .pointer (some ⟨w.heap.size, 0, none⟩) := (hst 3 (by kernel_rfl)).trans rfl
        exact wpOp_of rfl rfl (wp_value (v := fiV X) (W' := W) (by exact exec_load rfl (by simpa [Act.eval] using s3) (HLX.out W (h3k.trans (hJ.b.mono h3k.size)))) ⟨_, rfl, fun vs hvs hv => hJ.set (i := 2) hnn hvs (fun e => absurd e (by decide)) (fun e => absurd e (by decide)) (fun _ => hv 97 rfl) (fun e => absurd e (by decide)) (fun e => absurd e (by decide)) (fun e => absurd e (by decide)) (fun e => absurd e (by decide)) (fun e => absurd e (by decide)) (fun e => absurd e (by decide)) (fun e => absurd e (by decide))⟩)
      · have s2 := (hJ.slot (j := 2) (d := 97) (by kernel_rfl)).trans (hJ.h2 (hb 2 (by kernel_rfl)))
        refine wpOp_of rfl rfl (wp_enter (f := 29) (args := #[fiV X]) (by simp [execOp, Act.eval, s2, go_sem]) ?_)
        refine (HTX.out W hB).mono ?_
        rintro e w' ⟨u', n', rfl, hx', _, _, g'⟩
        exact ⟨_, rfl, _, rfl, fun vs hvs hv => (hJ.on g').set (i := 3) hnn hvs (fun e => absurd e (by decide)) (fun e => absurd e (by decide)) (fun e => absurd e (by decide)) (fun _ => ⟨⟨X.f, u', n'⟩, hv 98 rfl, hx', rfl⟩) (fun e => absurd e (by decide)) (fun e => absurd e (by decide)) (fun e => absurd e (by decide)) (fun e => absurd e (by decide)) (fun e => absurd e (by decide)) (fun e => absurd e (by decide))⟩
      · obtain ⟨ys, h1, h1f⟩ := hJ.h1 (hb 1 (by kernel_rfl))
        obtain ⟨y, h3, h3h, h3f⟩ := hJ.h3 (hb 3 (by kernel_rfl))
        have s1 := hJ.slot (j := 1) (d := 96) (by kernel_rfl)
        have s3 := (hJ.slot (j := 3) (d := 98) (by kernel_rfl)).trans h3
        refine wpOp_of rfl rfl (wp_enter (f := 11) (args := #[_, fiV y]) (by simp [execOp, Act.eval, s1, s3, go_sem]; rfl) ?_)
        refine (HI.out W _ ys y hB h1 h1f h3h h3f).mono ?_
        rintro e w' ⟨v', b', zs, rfl, ho', hf', hb', g'⟩
        exact ⟨_, rfl, _, rfl, fun vs hvs hv => (hJ.on g').set (i := 4) hnn hvs (fun e => absurd e (by decide)) (fun e => absurd e (by decide)) (fun e => absurd e (by decide)) (fun e => absurd e (by decide)) (fun _ => ⟨v', zs, by rw [← hb']; exact hv 99 rfl, ho'.base hJ.b.size, hf'⟩) (fun e => absurd e (by decide)) (fun e => absurd e (by decide)) (fun e => absurd e (by decide)) (fun e => absurd e (by decide)) (fun e => absurd e (by decide))⟩
      · have hd4 : dn L 4 := hb 4 (by kernel_rfl)
        exact wpOp_of rfl rfl (wp_value (v := A.tmps[99]?.getD undef) (W' := W) (by simp [execOp, Act.eval, go_sem]) ⟨_, rfl, fun vs hvs hv => hJ.set (i := 5) hnn hvs (fun e => absurd e (by decide)) (fun e => absurd e (by decide)) (fun e => absurd e (by decide)) (fun e => absurd e (by decide)) (fun e => absurd e (by decide)) (fun _ => ⟨hd4, (hv 94 rfl).trans (hJ.slot (j := 4) (d := 99) (by kernel_rfl))⟩) (fun e => absurd e (by decide)) (fun e => absurd e (by decide)) (fun e => absurd e (by decide)) (fun e => absurd e (by decide))⟩)
      · have hd5 : dn L 5 := hb 5 (by kernel_rfl)
        obtain ⟨v4, zs, h4, _, _⟩ := hJ.h4 (hJ.c54 hd5)
        have s5 := ((hJ.slot (j := 5) (d := 94) (by kernel_rfl)).trans (hJ.h5 hd5)).trans h4
        exact wpOp_of rfl rfl (wp_value (v := v4) (W' := W) (by simp [execOp, Act.eval, s5, go_sem]) ⟨_, rfl, fun vs hvs hv => hJ.set (i := 6) hnn hvs (fun e => absurd e (by decide)) (fun e => absurd e (by decide)) (fun e => absurd e (by decide)) (fun e => absurd e (by decide)) (fun e => absurd e (by decide)) (fun e => absurd e (by decide)) (fun _ => ⟨hd5, by rw [show vl vs 6 = _ from hv 100 rfl]; exact h4⟩) (fun e => absurd e (by decide)) (fun e => absurd e (by decide)) (fun e => absurd e (by decide))⟩)
      · have hd5 : dn L 5 := hb 5 (by kernel_rfl)
        obtain ⟨v4, zs, h4, _, _⟩ := hJ.h4 (hJ.c54 hd5)
        have s5 := ((hJ.slot (j := 5) (d := 94) (by kernel_rfl)).trans (hJ.h5 hd5)).trans h4
        exact wpOp_of rfl rfl (wp_value (v := .bool (F, bG).2) (W' := W) (by simp [execOp, Act.eval, s5, go_sem]) ⟨_, rfl, fun vs hvs hv => hJ.set (i := 7) hnn hvs (fun e => absurd e (by decide)) (fun e => absurd e (by decide)) (fun e => absurd e (by decide)) (fun e => absurd e (by decide)) (fun e => absurd e (by decide)) (fun e => absurd e (by decide)) (fun e => absurd e (by decide)) (fun _ => hv 101 rfl) (fun e => absurd e (by decide)) (fun e => absurd e (by decide))⟩)
      · have hd6 : dn L 6 := hb 6 (by kernel_rfl)
        exact wpOp_of rfl rfl (wp_value (v := A.tmps[100]?.getD undef) (W' := W) (by simp [execOp, Act.eval, go_sem]) ⟨_, rfl, fun vs hvs hv => hJ.set (i := 8) hnn hvs (fun e => absurd e (by decide)) (fun e => absurd e (by decide)) (fun e => absurd e (by decide)) (fun e => absurd e (by decide)) (fun e => absurd e (by decide)) (fun e => absurd e (by decide)) (fun e => absurd e (by decide)) (fun e => absurd e (by decide)) (fun _ => ⟨hd6, (hv 15 rfl).trans (hJ.slot (j := 6) (d := 100) (by kernel_rfl))⟩) (fun e => absurd e (by decide))⟩)
      · have s7 := (hJ.slot (j := 7) (d := 101) (by kernel_rfl)).trans (hJ.h7 (hb 7 (by kernel_rfl)))
        exact wpOp_of rfl rfl (wp_value (v := .bool (F, bG).2) (W' := W) (by simp [execOp, Act.eval, s7, go_sem]) ⟨_, rfl, fun vs hvs hv => hJ.set (i := 9) hnn hvs (fun e => absurd e (by decide)) (fun e => absurd e (by decide)) (fun e => absurd e (by decide)) (fun e => absurd e (by decide)) (fun e => absurd e (by decide)) (fun e => absurd e (by decide)) (fun e => absurd e (by decide)) (fun e => absurd e (by decide)) (fun e => absurd e (by decide)) (fun _ => hv 16 rfl)⟩)
    · intro L wl vs hall hJ
      obtain ⟨zs2, h2o, h2f, h2b⟩ := hJ.done (fun j hj => hall j hj)
      dsimp only at h2f h2b
      obtain ⟨a2, c2, h2e⟩ := h2o.form
      rw [HFN.out zs2 h2f] at h2e
      rw [h2e] at h2o
      have wlB := wkB.trans (hJ.b.mono wkB.size)
      have h4l := h4k.trans (hJ.b.mono h4k.size)
      have HSL2 := Lib.hid (HSK.out.on hJ.b)
      have HEl := Lib.hid (HEQ.out _ _ zs2 zs0 wl h2o.slc (HO0.out.on h4l).slc h2f HF0.out)
      unfold vl at h2e h2b
      clear hJ hall h2o h2f
      simp only [RI.mergeL]
      rw [h2e, h2b]
      generalize vs[0]?.getD undef = y0
      generalize vs[1]?.getD undef = y1
      generalize vs[2]?.getD undef = y2
      generalize vs[3]?.getD undef = y3
      generalize vs[4]?.getD undef = y4
      generalize vs[5]?.getD undef = y5
      generalize vs[6]?.getD undef = y6
      generalize vs[7]?.getD undef = y7
      clear h2e h2b vs
      go_wp2_with fail
      refine HEl.out.mono ?_
      rintro e wm ⟨rfl, gm⟩
      have wmB := wlB.trans (gm.mono wlB.size)
      have HHDm := Lib.hid (HHDz.out _ wm (HSL2.out.on gm))
      clear gm
      go_wp2_with fail
      refine HHDm.out.mono ?_
      rintro e wn ⟨rfl, gn⟩
      have wnB := wmB.trans (gn.mono wmB.size)
      go_wp2_with fail
      go_ret
      exact ⟨rfl, wnB⟩

end Go.Proofs.YtgaggpnlimchkaaGreatDoor.B11
