/- Chapter 10: FnExactReadPick's walk. -/
import Derived.Test.YtliihnkonakacaaGreatDoorPickI10
import Derived.Test.YtliihnkonakacaaGreatDoorMarkQ10
import Derived.Test.YtliihnkonakacaaGreatDoorOpen6
import Derived.Test.YtliihnkonakacaaGreatDoorOpen10b
namespace Go.Proofs.YtliihnkonakacaaGreatDoor.B10
open Go.Proofs.YtliihnkonakacaaGreatDoor.P1 Go.Proofs.YtliihnkonakacaaGreatDoor.B1 Go.Proofs.YtliihnkonakacaaGreatDoor.B2 Go.Proofs.YtliihnkonakacaaGreatDoor.T1 Go.Proofs.YtliihnkonakacaaGreatDoor.BT Go.Proofs.YtliihnkonakacaaGreatDoor.P5 Go.Proofs.YtliihnkonakacaaGreatDoor.P6 Go.Proofs.YtliihnkonakacaaGreatDoor.P9 Go.Proofs.YtliihnkonakacaaGreatDoor.B5 Go.Proofs.YtliihnkonakacaaGreatDoor.B6 Go.Proofs.YtliihnkonakacaaGreatDoor.O6 Go.Proofs.YtliihnkonakacaaGreatDoor.D1 Go.Proofs.YtliihnkonakacaaGreatDoor.W8 Go.Proofs.YtliihnkonakacaaGreatDoor.RC Go.Proofs.YtliihnkonakacaaGreatDoor.RI Go.Proofs.YtliihnkonakacaaGreatDoor.P10
open Go.ChangeShapes Go.WideShapes Go.ChangeAt Go.RowKit
set_option linter.unusedVariables false

theorem readPick_okX {ts : List Tok} {ps : List Pt} (h : readPick ts = some ps) : pickOk ps = true := by
  rw [readPick_is] at h
  unfold finish at h
  split at h
  · next hk => injection h with h; rw [← h]; exact hk
  · cases h

theorem szS_noneX (a : Option Addr) (cap : Nat) (w : World) : Calls Tryz.prog 28 #[.slice a 0 cap, .int .i64 1048576] w (Small [] w) := by
  go_enter Tryz.func28, Tryz.ntmps28
  go_wp2
  go_loop [1, 5] (fun s1 s5 => s1 = .int .i64 1048576 ∧ s5 = .int .i64 0) (fun _ _ => 0)
  case atStart => exact ⟨rfl, rfl⟩
  case round =>
    obtain ⟨rfl, rfl⟩ := hrel
    go_wp2
    go_ret
    exact ⟨1048576, rfl, by decide, by decide, fun _ => by simp [sumT], Below.refl _ _⟩

theorem toTokS_noneX (a : Option Addr) (cap : Nat) (w : World) : Calls Tryz.prog 29 #[.slice a 0 cap] w (CopiesL [] w) := by
  have hmk : (Instr.makeSlice 27 (.int .i64 0) (.int .i64 0)).run Tryz.prog w = .ok (.slice (some ⟨w.heap.size, 0, none⟩) 0 0) (w.alloc (.cells #[] 73)) := by
    have h := make_toks 0 (by decide) w
    rw [show madeCells #[.int .i64 0, .string ⟨#[]⟩, .int .i64 0] (0 * 3) = #[] by simp [madeCells]] at h
    exact h
  have hB0 : Below w.heap.size w (w.alloc (.cells #[] 73)) := (Below.refl _ _).alloc (Nat.le_refl _) _
  have hl0 : LBlk (w.alloc (.cells #[] 73)) w.heap.size (toksC []) := LBlk.new w [] _
  go_enter Tryz.func29, Tryz.ntmps29
  go_wp2
  go_loopg [4] 0 (fun kx s4 wr => s4 = .int .i64 0 ∧ wr = w.alloc (.cells #[] 73))
  case atStart => exact ⟨rfl, rfl⟩
  case round =>
    obtain ⟨rfl, rfl⟩ := hrel
    go_wp2
    go_ret
    exact ⟨w.heap.size, 0, rfl, hl0, Nat.le_refl _, by decide, Nat.le_refl _, hB0⟩

theorem szS_argX (ts : List P5.Tok) (v : Value) (w : World) (h : ArgVal w v ts) : Calls Tryz.prog 28 #[v, .int .i64 1048576] w (Small ts w) := by
  rcases h with ⟨rfl, a, cap, rfl⟩ | ⟨b, off, cap, rfl, h1, h2, h3⟩
  · exact szS_noneX a cap w
  · exact szS_rows ts _ b off cap w rfl h3 h1 h2

theorem toTokS_argX (ts : List P5.Tok) (v : Value) (w : World) (h : ArgVal w v ts) (hs : ts.length ≤ 2000000) : Calls Tryz.prog 29 #[v] w (CopiesL ts w) := by
  rcases h with ⟨rfl, a, cap, rfl⟩ | ⟨b, off, cap, rfl, h1, h2, h3⟩
  · exact toTokS_noneX a cap w
  · exact toTokS_rowsL ts _ b off cap w rfl h3 h1 h2 hs

theorem arg_onX {w w' : World} {v : Value} {ts : List P5.Tok} (h : ArgVal w v ts) (hb : Below w.heap.size w w') : ArgVal w' v ts := by
  rcases h with h | ⟨b, off, cap, rfl, h1, h2, h3⟩
  · exact Or.inl h
  · exact Or.inr ⟨b, off, cap, rfl, h1, h2, h3.on hb⟩

theorem sum_memX {ts : List P5.Tok} {x : P5.Tok} (h : x ∈ ts) : x.t.length ≤ sumT ts := by
  induction ts with
  | nil => cases h
  | cons y r ih =>
    have e : sumT (y :: r) = y.t.length + sumT r := by simp [sumT]
    rcases List.mem_cons.1 h with rfl | h
    · omega
    · have := ih h; omega

theorem arg_fitX {w : World} {v : Value} {ts : List P5.Tok} (h : ArgVal w v ts) (hs : ts.length + sumT ts ≤ 1048576) : ∀ x ∈ ts, TokFit x := fun x hx => by
  rcases h with ⟨rfl, _⟩ | ⟨b, off, cap, rfl, h1, h2, h3⟩
  · cases hx
  · have hf := h3.fit x hx
    have := sum_memX hx
    exact ⟨hf.1, hf.2.1, by omega⟩

theorem arg_formX {w : World} {v : Value} {ts : List P5.Tok} (h : ArgVal w v ts) : ∃ a n cap, v = .slice a n cap := by
  rcases h with ⟨_, a, cap, rfl⟩ | ⟨b, off, cap, rfl, _⟩
  · exact ⟨_, _, _, rfl⟩
  · exact ⟨_, _, _, rfl⟩

/-- What is read is small. -/
theorem read_small (ts : List Tok) : ((readPick ts).getD []).length ≤ 4 ∧ ∀ p ∈ (readPick ts).getD [], p.bs.length ≤ 3 := by
  cases h : readPick ts with
  | none => exact ⟨by simp, fun p hp => by cases hp⟩
  | some ps =>
    have hok := readPick_okX h
    exact ⟨(ok_bs hok).1, (ok_bs hok).2.2.2⟩

theorem markPartS_none (k : Nat) (w : World) : Calls Tryz.prog 32 #[.slice none 0 0, .int .i64 (k : Int)] w (Ans (.int .i64 (k : Int)) w) := by
  go_enter Tryz.func32, Tryz.ntmps32
  go_wp2
  go_loop [1, 5] (fun s1 s5 => s1 = .int .i64 (k : Int) ∧ s5 = .int .i64 0) (fun _ _ => 0)
  case atStart => exact ⟨rfl, rfl⟩
  case round =>
    obtain ⟨rfl, rfl⟩ := hrel
    go_wp2
    go_ret
    exact ⟨rfl, Below.refl _ _⟩

theorem markPartS_laws (xs : List Pv) (v : Value) (B : Nat) (w : World) (h : OwnQ B v xs w) (hB : B ≤ w.heap.size) (hs : xs.length ≤ 1000) (hb : ∀ x ∈ xs, x.p.bs.length ≤ 1000) :
    Calls Tryz.prog 32 #[v, .int .i64 1] w fun e w' => e = .returned (.int .i64 ((endK 1 xs : Nat) : Int)) ∧ PtSlc w' v (markPs 1 xs) ∧ Below B w w' := by
  rcases h.own.2 with ⟨rfl, h0⟩ | ⟨g, cap, cur, rfl, hbg, _⟩
  · have hx : xs = [] := List.length_eq_zero_iff.1 h0
    subst hx
    refine (markPartS_none 1 w).mono ?_
    rintro e w' ⟨rfl, hw⟩
    exact ⟨rfl, ⟨⟨none, 0, rfl, Nat.le_refl _, by decide, fun h => absurd rfl h⟩, fun x hx => by cases hx⟩, hw.mono hB⟩
  · obtain ⟨hm, h1, h2⟩ := h.mp
    refine (markPartS_rows xs 1 xs.length g cap B w rfl hm h1 hs hb (Nat.le_refl _) (by decide) hbg (fun x hx q hq => (World.ownsRow.lt (h.hs x hx) q hq).1) hB).mono ?_
    rintro e w' ⟨rfl, hm2, hw⟩
    have := hm2.slc (cap := cap) (by rw [markPs_len]; exact h1) h2
    rw [markPs_len] at this
    exact ⟨rfl, this, hw⟩

theorem PtSlc.formV {w : World} {v : Value} {xs : List Pv} (h : PtSlc w v xs) : ∃ a c, v = .slice a xs.length c := by
  obtain ⟨a, c, e, _⟩ := h.form
  exact ⟨a, c, e⟩

set_option maxRecDepth 100000 in
set_option maxHeartbeats 8000000 in
theorem xread_walk (ts : List P5.Tok) (v : Value) (w : World) (h : ArgVal w v ts) (L : B5.Pow w) :
    Calls Tryz.prog 7 #[v] w (Ans (.bool true) w) := by
  have HA := Lib.hid h
  have HL := Lib.hid L
  have HZ := Lib.hid (fun w' (hb : Below w.heap.size w w') => szS_argX ts v w' (arg_onX h hb))
  obtain ⟨a, nn, cap, rfl⟩ := arg_formX h
  clear h L
  go_enter Tryz.func7, Tryz.ntmps7
  go_wp2_with fail
  refine (HZ.out _ (Below.refl _ _)).mono ?_
  rintro e w1 ⟨r, rfl, hr0, hr1, hrs, g1⟩
  by_cases hneg : r < 0
  · go_wp2_with fail
    go_ret
    exact ⟨rfl, g1⟩
  · have hsm := hrs (by omega)
    have hlen : ts.length ≤ 1048576 := by omega
    have HF := Lib.hid (arg_fitX HA.out hsm)
    have HT := Lib.hid (fun w' (hb : Below w.heap.size w w') => toTokS_argX ts _ w' (arg_onX HA.out hb) (by omega))
    have HS := Lib.hid (fun v' w' (hv : TokVal w' v' ts) => ReadPick_spec ts v' w' hv HF.out hlen)
    have HI := Lib.hid (fun v' w' (hb : Below w.heap.size w w') (hv : TokVal w' v' ts) => ReadPick_impl ts v' w' (HL.out.on hb) hv.slc HF.out hlen)
    have HE := Lib.hid (fun v' v2 w' (hv : TokVal w' v' ts) (hv2 : TokVal w' v2 ts) => eqS_same ts v' v2 w' hv hv2 (by omega))
    have HSM := Lib.hid (read_small ts)
    have HLN := Lib.hid hlen
    unfold Picks at HS HI
    obtain ⟨Q, eQ⟩ : ∃ Q, readPick ts = Q := ⟨_, rfl⟩
    rw [eQ] at HS HI HSM
    have HPL := Lib.hid (fun (xs : List Pv) (hx : pts xs = Q.getD []) => (show xs.length ≤ 1000 ∧ (∀ p ∈ pts xs, p.bs.length ≤ 2000000) ∧ ∀ x ∈ xs, x.p.bs.length ≤ 1000 from by
      have h1 : (pts xs).length = xs.length := by simp [pts]
      have h2 := HSM.out
      rw [hx] at h1
      refine ⟨by omega, fun p hp => by rw [hx] at hp; have := h2.2 p hp; omega, fun x hxm => ?_⟩
      have := h2.2 x.p (by rw [← hx]; exact List.mem_map.2 ⟨x, hxm, rfl⟩)
      omega))
    obtain ⟨m, hm⟩ : ∃ m, ts.length = m := ⟨_, rfl⟩
    have HM := Lib.hid hm
    have hmb : m ≤ 1048576 := by omega
    clear hrs hsm hlen hr0 hr1 HZ eQ hm
    unfold CopiesL at HT
    go_wp2_with fail
    refine (HT.out _ g1).mono ?_
    rintro e w2 ⟨p1, c1, rfl, hl1, hc1, hd1, hg1, g2⟩
    have hB2 := g1.trans (g2.mono g1.size)
    have hv1 : TokVal w2 (.slice (some ⟨p1, 0, none⟩) ts.length c1) ts := Or.inr ⟨p1, c1, rfl, row_of_lblk hl1 hc1 hd1⟩
    have HS1 := Lib.hid (HS.out _ _ hv1)
    rw [HM.out] at HS1 ⊢
    clear hl1 hc1 hd1 hg1 g2 hv1 g1
    go_wp2_with fail
    refine HS1.out.mono ?_
    rintro e w3 ⟨v0, b0, xs, rfl, hb0, hx, hpx, g3⟩
    have hB3 := hB2.trans (g3.mono hB2.size)
    obtain ⟨a0, c0, e0⟩ := hx.form
    obtain ⟨n0, hn0⟩ : ∃ n0, xs.length = n0 := ⟨_, rfl⟩
    rw [hn0] at e0
    subst e0
    have HX := Lib.hid hx
    have HPX := Lib.hid hpx
    have HB0 := Lib.hid hb0
    clear hx hpx hb0 g3 hn0 HS1
    go_wp2_with fail
    refine (HT.out _ hB3).mono ?_
    rintro e w4 ⟨p4, c4, rfl, hl4, hc4, hd4, hg4, g4⟩
    have hB4 := hB3.trans (g4.mono hB3.size)
    have hv4 : TokVal w4 (.slice (some ⟨p4, 0, none⟩) ts.length c4) ts := Or.inr ⟨p4, c4, rfl, row_of_lblk hl4 hc4 hd4⟩
    have HI4 := Lib.hid (HI.out _ _ hB4 hv4)
    have HL4 := Lib.hid hl4
    have HV4 := Lib.hid hv4
    have HC4 := Lib.hid hc4
    rw [HM.out] at HI4 ⊢
    have h34 := g4
    clear hl4 hc4 hd4 hv4 g4
    go_wp2_with fail
    refine HI4.out.mono ?_
    rintro e w5 ⟨v5, b5, ys, rfl, hb5, hy, hpy, g5⟩
    have hB5 := hB4.trans (g5.mono hB4.size)
    have h35 := h34.trans (g5.mono h34.size)
    have eb : b5 = b0 := by rw [hb5, HB0.out]
    subst eb
    have hp4 : p4 < w4.heap.size := HL4.out.1
    have HP4 := Lib.hid hp4
    obtain ⟨hyn, hyb, hyb2⟩ := HPL.out ys hpy
    have HLK := Lib.hid (fun w' (hw : PtSlc w' v5 ys) (hw0 : PtSlc w' (.slice a0 n0 c0) xs) => eqPartS_same ys xs v5 _ w' hw hw0 (by rw [hpy, HPX.out]) hyb (by omega))
    have HMK := Lib.hid (fun w' (hq : OwnQ w4.heap.size v5 ys w') (hw : w4.heap.size ≤ w'.heap.size) => markPartS_laws ys v5 w4.heap.size w' hq hw hyn hyb2)
    have HHD := Lib.hid (fun w' (hw : PtSlc w' v5 (markPs 1 ys)) => heldPartS_laws ys 1 ys.length v5 w' rfl hw hyn hyb2 (Nat.le_refl _) (by decide))
    have hek := endK_le (M := 1000) 1 ys hyb2
    obtain ⟨K, eK⟩ : ∃ K, endK 1 ys = K := ⟨_, rfl⟩
    rw [eK] at HMK HHD hek
    have hK0 : ¬ (K : Int) < 0 := by omega
    have hKK : ((K : Int) != (K : Int)) = false := by simp
    obtain ⟨a5, c5, e5⟩ := hy.form
    obtain ⟨n5, hn5⟩ : ∃ n5, ys.length = n5 := ⟨_, rfl⟩
    rw [hn5] at e5
    subst e5
    have HY := Lib.hid hy
    have HX3 := Lib.hid (fun w' (hw : Below w3.heap.size w3 w') => (HX.out.on hw).slc)
    have hbb : (b5 != b5) = false := by simp
    have HLK5 := Lib.hid (HLK.out w5 hy.slc (HX3.out w5 h35))
    have HG4 := Lib.hid hg4
    have HPY := Lib.hid hpy
    have H45 := Lib.hid g5
    clear hy hpy hb5 hyn hyb hyb2 hek eK hn5 hp4 hg4 HX HI4 g5
    go_wp2_with fail
    refine HLK5.out.mono ?_
    rintro e w6 ⟨rfl, g6⟩
    have hB6 := hB5.trans (g6.mono hB5.size)
    have h36 := h35.trans (g6.mono h35.size)
    have hy6 := HY.out.on g6
    have h46 := H45.out.trans (g6.mono H45.out.size)
    clear g6
    go_wp2_with fail
    refine (HT.out _ hB6).mono ?_
    rintro e w7 ⟨p7, c7, rfl, hl7, hc7, hd7, hg7, g7⟩
    have hB7 := hB6.trans (g7.mono hB6.size)
    have h37 := h36.trans (g7.mono h36.size)
    have hy7 := hy6.on g7
    have h47 := h46.trans (g7.mono h46.size)
    have HE7 := Lib.hid (HE.out _ (.slice (some ⟨p7, 0, none⟩) ts.length c7) w7 (HV4.out.on h47) (Or.inr ⟨p7, c7, rfl, row_of_lblk hl7 hc7 hd7⟩))
    rw [HM.out] at HE7 ⊢
    clear hl7 hc7 hd7 hg7 g7 hy6 h46 h36
    go_wp2_with fail
    refine HE7.out.mono ?_
    rintro e w8 ⟨rfl, g8⟩
    have hB8 := hB7.trans (g8.mono hB7.size)
    have h38 := h37.trans (g8.mono h37.size)
    have hy8 := hy7.on g8
    have h48 := h47.trans (g8.mono h47.size)
    have HMT := Lib.hid (markS_rows ts 1 m p4 c4 w8 HM.out (HL4.out.below h48) (by rw [← HM.out]; exact HC4.out) (by omega) (Nat.le_refl _) (by decide))
    unfold Marks at HMT
    clear g8 hy7 h47 h37 HE7
    go_wp2_with fail
    refine HMT.out.mono ?_
    rintro e w9 ⟨rfl, hl9, ho9⟩
    have hkm : ¬ (((1 + 3 * m : Nat) : Int) < 0) := by omega
    have hB9 := hB8.trans (ho9.below (B := w.heap.size) (by have := HG4.out; have := hB3.size; omega) hB8.size)
    have h39 := h38.trans (ho9.below (B := w3.heap.size) HG4.out h38.size)
    have hy9 : OwnQ w4.heap.size (.slice a5 n5 c5) ys w9 := ⟨own_onlyA hy8.own ho9 HP4.out, fun x hx => own_onlyA (hy8.hs x hx) ho9 HP4.out, hy8.ap⟩
    have h49 : w4.heap.size ≤ w9.heap.size := Nat.le_trans h48.size ho9.size
    have HLK9 := Lib.hid (HLK.out w9 hy9.slc (HX3.out w9 h39))
    obtain ⟨km, ekm⟩ : ∃ km, 1 + 3 * m = km := ⟨_, rfl⟩
    rw [ekm] at hkm ⊢
    clear hl9 ho9 hy8 h48 h38 HMT ekm
    go_wp2_with fail
    refine HLK9.out.mono ?_
    rintro e wa ⟨rfl, ga⟩
    have hBa := hB9.trans (ga.mono hB9.size)
    have h3a := h39.trans (ga.mono h39.size)
    have hya := hy9.on ga
    have h4a : w4.heap.size ≤ wa.heap.size := Nat.le_trans h49 ga.size
    have HMA := Lib.hid (HMK.out wa hya h4a)
    clear ga hy9 h39 HLK9
    go_wp2_with fail
    refine HMA.out.mono ?_
    rintro e wb ⟨rfl, hpb, gb⟩
    have hBb := hBa.trans (gb.mono hB4.size)
    have h3b := h3a.trans (gb.mono h34.size)
    have HHB := Lib.hid (HHD.out wb hpb)
    have HPB := Lib.hid hpb
    clear gb hya HMA hpb
    go_wp2_with fail
    refine HHB.out.mono ?_
    rintro e wd ⟨rfl, gd⟩
    have hBd := hBb.trans (gd.mono hBb.size)
    have h3d := h3b.trans (gd.mono h3b.size)
    have HPD := Lib.hid (HPB.out.on gd)
    clear gd HHB
    go_wp2_with fail
    refine (HT.out _ hBd).mono ?_
    rintro e we ⟨pe, ce, rfl, hle, hce, hde, hge, ge⟩
    have hBe := hBd.trans (ge.mono hBd.size)
    have h3e := h3d.trans (ge.mono h3d.size)
    have HPE := Lib.hid (HPD.out.on ge)
    have HIE := Lib.hid (HI.out (.slice (some ⟨pe, 0, none⟩) ts.length ce) _ hBe (Or.inr ⟨pe, ce, rfl, row_of_lblk hle hce hde⟩))
    rw [HM.out] at HIE ⊢
    clear hle hce hde hge ge
    go_wp2_with fail
    refine HIE.out.mono ?_
    rintro e wf ⟨vf, bf, zs, rfl, hbf, hz, hpz, gf⟩
    have hBf := hBe.trans (gf.mono hBe.size)
    have h3f := h3e.trans (gf.mono h3e.size)
    have HPF := Lib.hid (HPE.out.on gf)
    have ebf : bf = b5 := by rw [hbf, HB0.out]
    subst ebf
    obtain ⟨hzn, hzb, _⟩ := HPL.out zs hpz
    have HLF := Lib.hid (eqPartS_same zs xs vf _ wf hz.slc (HX3.out wf h3f) (by rw [hpz, HPX.out]) hzb (by omega))
    obtain ⟨af, cf, ef⟩ := hz.form
    obtain ⟨nf, hnf⟩ : ∃ nf, zs.length = nf := ⟨_, rfl⟩
    rw [hnf] at ef
    subst ef
    clear hz hpz hbf hzn hzb hnf gf HIE
    go_wp2_with fail
    refine HLF.out.mono ?_
    rintro e wg ⟨rfl, gg⟩
    have hBg := hBf.trans (gg.mono hBf.size)
    have HHG := Lib.hid (HHD.out wg (HPF.out.on gg))
    clear gg HLF
    go_wp2_with fail
    refine HHG.out.mono ?_
    rintro e wh ⟨rfl, gh⟩
    have hBh := hBg.trans (gh.mono hBg.size)
    go_wp2_with fail
    go_ret
    exact ⟨rfl, hBh⟩

end Go.Proofs.YtliihnkonakacaaGreatDoor.B10
