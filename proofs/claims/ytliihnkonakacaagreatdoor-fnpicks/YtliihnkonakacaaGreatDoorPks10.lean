/- Chapter 10: FnPicks' walk. -/
import Derived.Test.YtliihnkonakacaaGreatDoorPickI10
import Derived.Test.YtliihnkonakacaaGreatDoorLike10
import Derived.Test.YtliihnkonakacaaGreatDoorPlain10p
import Derived.Test.YtliihnkonakacaaGreatDoorShow10b
namespace Go.Proofs.YtliihnkonakacaaGreatDoor.B10
open Go.Proofs.YtliihnkonakacaaGreatDoor.P1 Go.Proofs.YtliihnkonakacaaGreatDoor.B1 Go.Proofs.YtliihnkonakacaaGreatDoor.B2 Go.Proofs.YtliihnkonakacaaGreatDoor.T1 Go.Proofs.YtliihnkonakacaaGreatDoor.BT Go.Proofs.YtliihnkonakacaaGreatDoor.P5 Go.Proofs.YtliihnkonakacaaGreatDoor.P6 Go.Proofs.YtliihnkonakacaaGreatDoor.P9 Go.Proofs.YtliihnkonakacaaGreatDoor.B5 Go.Proofs.YtliihnkonakacaaGreatDoor.B6 Go.Proofs.YtliihnkonakacaaGreatDoor.D1 Go.Proofs.YtliihnkonakacaaGreatDoor.W8 Go.Proofs.YtliihnkonakacaaGreatDoor.RC Go.Proofs.YtliihnkonakacaaGreatDoor.RI Go.Proofs.YtliihnkonakacaaGreatDoor.P10
open Go.ChangeShapes Go.WideShapes Go.ChangeAt Go.RowKit
set_option linter.unusedVariables false

theorem readPick_ok {ts : List Tok} {ps : List Pt} (h : readPick ts = some ps) : pickOk ps = true := by
  rw [readPick_is] at h
  unfold finish at h
  split at h
  · next hk => injection h with h; rw [← h]; exact hk
  · cases h

theorem ok_bs2 {ps : List Pt} (h : pickOk ps = true) : ∀ p ∈ ps, p.bs.length ≤ 2000000 := fun p hp => by
  have := (ok_bs h).2.2.2 p hp
  omega

theorem pick_fits {ps : List Pt} (h : pickOk ps = true) : ∀ (x : Pv), x.p ∈ ps → Fits x := fun x hx => by
  obtain ⟨l1, l2, l3, l4⟩ := part_lens ((ok_bs h).2.2.1 x.p hx)
  exact ⟨by omega, by omega, by omega, fun s hs => by have := l4 s hs; omega⟩

theorem tks_fit {s : List UInt8} (h : s.length ≤ 4000) : (∀ x ∈ tokensOf s, TokFit x) ∧ (tokensOf s).length ≤ 4000 := by
  refine ⟨fun x hx => ?_, ?_⟩
  · obtain ⟨q1, q2, q3⟩ := D5.tokens_fit (s := s) x hx
    exact ⟨by omega, by omega, by omega⟩
  · unfold tokensOf
    rw [if_neg (by omega)]
    have := toks_len s.length s (Nat.le_refl _)
    omega

theorem toks_formV {W : World} {B : Nat} {v : Value} {ts : List Tok} (h : Toks W v B ts) : ∃ a c, v = .slice a ts.length c := own_formV h

set_option maxRecDepth 100000 in
set_option maxHeartbeats 8000000 in
theorem picks_walk (A0 : Option Addr) (len0 cap0 : Nat) (w : World) (w0 : len0 ≤ 4096 → Bytes w w.heap.size A0 len0) (L : B5.Pow w) :
    Calls Tryz.prog 3 #[.slice A0 len0 cap0] w (Ans (.bool true) w) := by
  by_cases hbig : 4096 < len0
  · go_enter Tryz.func3, Tryz.ntmps3
    go_wp2
    go_ret
    exact ⟨rfl, Below.refl _ _⟩
  · have hb := w0 (by omega)
    have HBY := Lib.hid (fun w' (g : Below w.heap.size w w') => hb.below g)
    have HL := Lib.hid L
    clear w0 L
    go_enter Tryz.func3, Tryz.ntmps3
    go_wp2_with (first | (go_at_call 11; go_in) | fail)
    refine (ShowPick_draw _ A0 len0 cap0 hb).mono ?_
    rintro e w1 ⟨v, xs, rfl, hv, hlen, hlen1, g1⟩
    have hf : ∀ x ∈ xs, Fits x := fun x hx => ptD_fits (hv.ok x hx)
    have hbs : ∀ p ∈ pts xs, p.bs.length ≤ 2000000 := fun p hp => by
      obtain ⟨x, hx, rfl⟩ := List.mem_map.1 hp
      have := (hf x hx).2.2.1
      omega
    have HV := Lib.hid (fun w' (hb : Below w1.heap.size w1 w') => hv.slc.on hb)
    have HBS := Lib.hid hbs
    have HSI := Lib.hid (ShowPick_impl xs v w1 (HL.out.on g1) hv.slc hf (by omega))
    have HSS := Lib.hid (fun w' (hb : Below w1.heap.size w1 w') => ShowPick_spec xs v w' (hv.slc.on hb) hf (by omega))
    have HPI := Lib.hid (fun w' (hb : Below w1.heap.size w1 w') => PickOk_impl xs v w' ((HL.out.on g1).on hb) (hv.slc.on hb) hf (by omega))
    have HPS := Lib.hid (fun w' (hb : Below w1.heap.size w1 w') => PickOk_spec xs v w' (hv.slc.on hb) hf (by omega))
    have HXL := Lib.hid hlen
    obtain ⟨ad, cp, ev⟩ := ownP_shape hv
    obtain ⟨n, hn⟩ : ∃ n, xs.length = n := ⟨_, rfl⟩
    rw [hn] at ev
    subst ev
    obtain ⟨s, es⟩ : ∃ s, showPick (pts xs) = s := ⟨_, rfl⟩
    rw [es] at HSI HSS
    have HES := Lib.hid es
    have HSLN := Lib.hid (show s.length ≤ 200 by rw [← es]; exact showPick_len _)
    obtain ⟨ok, eok⟩ : ∃ ok, pickOk (pts xs) = ok := ⟨_, rfl⟩
    rw [eok] at HPI HPS
    have HOK := Lib.hid eok
    clear hb hf hv hbs hn es eok hlen hlen1
    go_wp2_with fail
    refine HSI.out.mono ?_
    rintro e w2 ⟨rfl, g2⟩
    have gb2 := g1.trans (g2.mono g1.size)
    go_wp2_with fail
    refine (ReadPick_draw _ A0 len0 cap0 (HBY.out _ gb2)).mono ?_
    rintro e w3 ⟨t, tt, rfl, htl, ht, g3⟩
    have gb3 := gb2.trans (g3.mono gb2.size)
    have h13 := g2.trans (g3.mono g2.size)
    obtain ⟨hfit, htn⟩ := tks_fit (s := tt) (by omega)
    have HRI := Lib.hid (ReadPick_impl (tokensOf tt) t w3 (HL.out.on gb3) (Toks.val ht).slc hfit (by omega))
    have HRS := Lib.hid (fun w' (hb : Below w3.heap.size w3 w') => ReadPick_spec (tokensOf tt) t w' ((Toks.val ht).on hb) hfit (by omega))
    unfold Picks at HRI HRS
    obtain ⟨at', ct, et⟩ := toks_formV ht
    obtain ⟨m, hm⟩ : ∃ m, (tokensOf tt).length = m := ⟨_, rfl⟩
    rw [hm] at et
    subst et
    clear hfit htn ht hm g2 g3
    go_wp2_with fail
    refine HRI.out.mono ?_
    rintro e w4 ⟨x, b, ys, rfl, hb1, hx, hp1, g4⟩
    have gb4 := gb3.trans (g4.mono gb3.size)
    have h14 := h13.trans (g4.mono h13.size)
    obtain ⟨ax, cx, ex⟩ := hx.form
    obtain ⟨nx, hnx⟩ : ∃ nx, ys.length = nx := ⟨_, rfl⟩
    have HNX := Lib.hid hnx
    rw [hnx] at ex
    subst ex
    have HB1 := Lib.hid hb1
    have HP1 := Lib.hid hp1
    have HX := Lib.hid hx
    clear hx hnx hb1 hp1
    go_wp2_with fail
    refine (HRS.out _ g4).mono ?_
    rintro e w5 ⟨y, b2, zs, rfl, hb2, hy, hp2, g5⟩
    have e2 : b2 = b := by rw [hb2, HB1.out]
    subst e2
    have gb5 := gb4.trans (g5.mono gb4.size)
    have h15 := h14.trans (g5.mono h14.size)
    have hx5 := HX.out.on g5
    obtain ⟨ay, cy, ey⟩ := hy.form
    obtain ⟨ny, hny⟩ : ∃ ny, zs.length = ny := ⟨_, rfl⟩
    have HNY := Lib.hid hny
    rw [hny] at ey
    subst ey
    have hpp : pts ys = pts zs := by rw [HP1.out, hp2]
    have HOKX := Lib.hid (show b2 = true → pickOk (pts ys) = true from fun hb => by
      have h1 := HB1.out
      rw [hb] at h1
      cases hr : readPick (tokensOf tt) with
      | none => rw [hr] at h1; cases h1
      | some ps =>
        have h2 := HP1.out
        rw [hr] at h2
        rw [h2]
        exact readPick_ok hr)
    have HNO := Lib.hid (show b2 = false → pts ys = [] from fun hb => by
      have h1 := HB1.out
      rw [hb] at h1
      cases hr : readPick (tokensOf tt) with
      | none => have h2 := HP1.out; rw [hr] at h2; exact h2
      | some ps => rw [hr] at h1; cases h1)
    have hbl : ∀ p ∈ pts ys, p.bs.length ≤ 2000000 := by
      cases hb : b2
      · rw [HNO.out hb]; intro p hp; cases hp
      · exact ok_bs2 (HOKX.out hb)
    have hpl : (pts ys).length = nx := by rw [← HNX.out]; simp [pts]
    have hyl : nx ≤ 2000000 := by
      cases hb : b2
      · rw [← hpl, HNO.out hb]; simp
      · rw [← hpl]; have := (ok_bs (HOKX.out hb)).1; omega
    have HLK := Lib.hid (likePick_same ys zs _ _ w5 hx5.slc hy.slc hpp hbl (by rw [HNX.out]; exact hyl))
    have HXP := Lib.hid (show b2 = true → ∀ w', Below w5.heap.size w5 w' → Calls Tryz.prog 19 #[.slice ax nx cx] w' (Ans (.bool true) w') from fun hb w' hw => by
      have hok := HOKX.out hb
      have := PickOk_impl ys _ w' (HL.out.on (gb5.trans (hw.mono gb5.size))) (hx5.slc.on hw) (fun z hz => pick_fits hok z (List.mem_map.2 ⟨z, hz, rfl⟩)) (by rw [HNX.out]; exact hyl)
      rw [hok] at this
      exact this)
    have HZN := Lib.hid (show b2 = false → nx = 0 from fun hb => by rw [← hpl, HNO.out hb]; rfl)
    have hss : (s != s) = false := by simp
    have hoo : (ok != ok) = false := by simp
    have hbb : (b2 != b2) = false := by simp
    clear HX hx5 hy hp2 hb2 hny hpp hbl hyl hpl g4 g5 HRI HRS HSI
    go_wp2_with fail
    refine HLK.out.mono ?_
    rintro e w6 ⟨rfl, g6⟩
    have h16 := h15.trans (g6.mono h15.size)
    go_wp2_with fail
    refine (HSS.out _ h16).mono ?_
    rintro e w7 ⟨rfl, g7⟩
    have h17 := h16.trans (g7.mono h16.size)
    go_wp2_with fail
    refine (HPI.out _ h17).mono ?_
    rintro e w8 ⟨rfl, g8⟩
    have h18 := h17.trans (g8.mono h17.size)
    go_wp2_with fail
    refine (HPS.out _ h18).mono ?_
    rintro e w9 ⟨rfl, g9⟩
    have h19 := h18.trans (g9.mono h18.size)
    have h59 := (g6.trans (g7.mono g6.size)).trans ((g8.trans (g9.mono g8.size)).mono (g6.trans (g7.mono g6.size)).size)
    clear g6 g7 g8 g9 h16 h17 h18
    go_upto_region 10 with (fail)
    go_cut [68] from 14 to 101 (fun s68 wx => s68 = .bool false ∧ Below w1.heap.size w1 wx)
    case first =>
      cases b2
      · obtain rfl : nx = 0 := HZN.out (by simp)
        go_wp2_with fail
        go_meet
        exact ⟨rfl, h19⟩
      · go_wp2_with fail
        refine (HXP.out (by simp) _ h59).mono ?_
        rintro e wa ⟨rfl, ga⟩
        go_wp2_with fail
        go_meet
        exact ⟨rfl, h19.trans (ga.mono h19.size)⟩
    case rest =>
      obtain ⟨rfl, h1c⟩ := hcut
      clear h19 h59 h15 HXP HZN HLK
      have gbc := g1.trans (h1c.mono g1.size)
      cases ok
      · have hs0 : s = [] := by rw [← HES.out]; exact show_empty HOK.out
        have hs1 : (s == []) = true := by rw [hs0]; rfl
        clear hs0
        go_wp2_with fail
        refine (HPI.out _ h1c).mono ?_
        rintro e wa ⟨rfl, ga⟩
        go_wp2_with fail
        go_ret
        exact ⟨rfl, gbc.trans (ga.mono gbc.size)⟩
      · have hs1 : (s == []) = false := by
          have := show_nonempty HOK.out
          rw [HES.out] at this
          simpa using this
        have hr1 : readPick (tokensOf s) = some (pts xs) := by
          have h1 := read_shown HOK.out (by rw [HES.out]; have := HSLN.out; omega)
          rwa [HES.out] at h1
        have hr2 : readPick (tokensOf (10 :: s ++ [32])) = some (pts xs) := by
          have h1 := read_spaced HOK.out (by rw [HES.out]; have := HSLN.out; omega)
          rwa [HES.out] at h1
        have HR1 := Lib.hid hr1
        have HR2 := Lib.hid hr2
        clear hr1 hr2
        go_wp2_with fail
        refine (TokensOf_spec s wc (by have := HSLN.out; omega)).mono ?_
        rintro e wd ⟨u, rfl, hu, gd⟩
        have h1d := h1c.trans (gd.mono h1c.size)
        have gbd := gbc.trans (gd.mono gbc.size)
        obtain ⟨hfit, htn⟩ := tks_fit (s := s) (by have := HSLN.out; omega)
        have HQ := Lib.hid (ReadPick_impl (tokensOf s) u wd (HL.out.on gbd) (Toks.val hu).slc hfit (by omega))
        rw [HR1.out] at HQ
        unfold Picks at HQ
        obtain ⟨au, cu, eu⟩ := toks_formV hu
        generalize (tokensOf s).length = mu at *
        subst eu
        clear hfit htn hu gd
        go_wp2_with fail
        refine HQ.out.mono ?_
        rintro e we ⟨q, bq, qs, rfl, hbq, hq, hpq, ge⟩
        have ebq : bq = true := hbq
        subst ebq
        have h1e := h1d.trans (ge.mono h1d.size)
        have gbe := gbd.trans (ge.mono gbd.size)
        have hpq' : pts qs = pts xs := hpq
        obtain ⟨aq, cq, eq⟩ := hq.form
        obtain ⟨nq, hnq⟩ : ∃ nq, qs.length = nq := ⟨_, rfl⟩
        have hnq2 : nq ≤ 2000000 := by
          have h1 : (pts qs).length = nq := by rw [← hnq]; simp [pts]
          have h2 : (pts xs).length = xs.length := by simp [pts]
          rw [hpq'] at h1
          have := HXL.out
          omega
        have HLQ := Lib.hid (fun w' (g : Below we.heap.size we w') => likePick_same qs xs q _ w' (hq.slc.on g) (HV.out w' (h1e.trans (g.mono h1e.size))) hpq' (by rw [hpq']; exact HBS.out) (by rw [hnq]; exact hnq2))
        rw [hnq] at eq
        subst eq
        obtain ⟨s2, es2⟩ : ∃ s2, 10 :: s = s2 := ⟨_, rfl⟩
        obtain ⟨s3, es3⟩ : ∃ s3, s2 ++ [32] = s3 := ⟨_, rfl⟩
        have hl2 : s2.length ≤ 201 := by rw [← es2]; have := HSLN.out; simp; omega
        have hl3 : s3.length ≤ 202 := by rw [← es3]; simp; omega
        have p1 := fun w' => str_add [10] s w' (by have := HSLN.out; simp; omega)
        have p2 := fun w' => str_add s2 [32] w' (by simp; omega)
        have e1 : ([10] ++ s) = s2 := by rw [← es2]; rfl
        rw [e1] at p1
        rw [es3] at p2
        have HR3 := Lib.hid (show readPick (tokensOf s3) = some (pts xs) by
          have h1 := HR2.out
          rw [es2, es3] at h1
          exact h1)
        have HL3 := Lib.hid hl3
        clear hq hpq hpq' hbq hnq hnq2 ge e1 es2 es3 hl2 hl3 HQ HR1 HR2
        go_wp2_with fail
        refine (TokensOf_spec s3 we (by have := HL3.out; omega)).mono ?_
        rintro e wf ⟨u2, rfl, hu2, gf⟩
        have h1f := h1e.trans (gf.mono h1e.size)
        have gbf := gbe.trans (gf.mono gbe.size)
        obtain ⟨hfit, htn⟩ := tks_fit (s := s3) (by have := HL3.out; omega)
        have HQ := Lib.hid (ReadPick_impl (tokensOf s3) u2 wf (HL.out.on gbf) (Toks.val hu2).slc hfit (by omega))
        rw [HR3.out] at HQ
        unfold Picks at HQ
        obtain ⟨au2, cu2, eu2⟩ := toks_formV hu2
        generalize (tokensOf s3).length = mu2 at *
        subst eu2
        have HGF := Lib.hid gf
        clear hfit htn hu2 gf p1 p2
        go_wp2_with fail
        refine HQ.out.mono ?_
        rintro e wg ⟨q2, bq2, qs2, rfl, hbq2, hq2, hpq2, gg⟩
        have ebq2 : bq2 = true := hbq2
        subst ebq2
        have h1g := h1f.trans (gg.mono h1f.size)
        have gbg := gbf.trans (gg.mono gbf.size)
        have heg := HGF.out.trans (gg.mono HGF.out.size)
        have hpq2' : pts qs2 = pts xs := hpq2
        obtain ⟨aq2, cq2, eq2⟩ := hq2.form
        obtain ⟨nq2, hnq2⟩ : ∃ nq2, qs2.length = nq2 := ⟨_, rfl⟩
        have hnq3 : nq2 ≤ 2000000 := by
          have h1 : (pts qs2).length = nq2 := by rw [← hnq2]; simp [pts]
          have h2 : (pts xs).length = xs.length := by simp [pts]
          rw [hpq2'] at h1
          have := HXL.out
          omega
        have HLQ2 := Lib.hid (fun w' (g : Below wg.heap.size wg w') => likePick_same qs2 xs q2 _ w' (hq2.slc.on g) (HV.out w' (h1g.trans (g.mono h1g.size))) hpq2' (by rw [hpq2']; exact HBS.out) (by rw [hnq2]; exact hnq3))
        rw [hnq2] at eq2
        subst eq2
        clear hq2 hpq2 hpq2' hbq2 hnq2 hnq3 gg HQ HR3
        go_wp2_with fail
        refine (HLQ.out _ heg).mono ?_
        rintro e wh ⟨rfl, gh⟩
        go_wp2_with fail
        refine (HLQ2.out _ gh).mono ?_
        rintro e wi ⟨rfl, gi⟩
        go_wp2_with fail
        go_ret
        exact ⟨rfl, gbg.trans ((gh.trans (gi.mono gh.size)).mono gbg.size)⟩

end Go.Proofs.YtliihnkonakacaaGreatDoor.B10
