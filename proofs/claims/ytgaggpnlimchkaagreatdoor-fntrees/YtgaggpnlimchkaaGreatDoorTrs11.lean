/- Chapter 11: the draw of a tree and a figure. -/
import Derived.Test.YtgaggpnlimchkaaGreatDoorDraw11
import Derived.Test.YtgaggpnlimchkaaGreatDoorGrow11
import Derived.Test.YtgaggpnlimchkaaGreatDoorLike11
import Derived.Test.YtgaggpnlimchkaaGreatDoorUp11
namespace Go.Proofs.YtgaggpnlimchkaaGreatDoor.B11
open Go.Proofs.YtgaggpnlimchkaaGreatDoor.P1 Go.Proofs.YtgaggpnlimchkaaGreatDoor.B1 Go.Proofs.YtgaggpnlimchkaaGreatDoor.B2 Go.Proofs.YtgaggpnlimchkaaGreatDoor.T1 Go.Proofs.YtgaggpnlimchkaaGreatDoor.BT Go.Proofs.YtgaggpnlimchkaaGreatDoor.P5 Go.Proofs.YtgaggpnlimchkaaGreatDoor.B5 Go.Proofs.YtgaggpnlimchkaaGreatDoor.P6 Go.Proofs.YtgaggpnlimchkaaGreatDoor.P9 Go.Proofs.YtgaggpnlimchkaaGreatDoor.B6 Go.Proofs.YtgaggpnlimchkaaGreatDoor.B9 Go.Proofs.YtgaggpnlimchkaaGreatDoor.D1 Go.Proofs.YtgaggpnlimchkaaGreatDoor.D2 Go.Proofs.YtgaggpnlimchkaaGreatDoor.D5 Go.Proofs.YtgaggpnlimchkaaGreatDoor.DB Go.Proofs.YtgaggpnlimchkaaGreatDoor.D9 Go.Proofs.YtgaggpnlimchkaaGreatDoor.W8 Go.Proofs.YtgaggpnlimchkaaGreatDoor.RC Go.Proofs.YtgaggpnlimchkaaGreatDoor.RI Go.Proofs.YtgaggpnlimchkaaGreatDoor.P10 Go.Proofs.YtgaggpnlimchkaaGreatDoor.B10 Go.Proofs.YtgaggpnlimchkaaGreatDoor.P11
open Go.ChangeShapes Go.WideShapes Go.ChangeAt Go.RowKit
set_option linter.unusedVariables false

theorem cur_below {w w' : World} {c : Nat} {a : Option Addr} {len cap : Nat} (h : Cur w c a len cap) (hb : Below w.heap.size w w') : Cur w' c a len cap :=
  (fr_grown (Fr.refl h) h.lt (row := none) ⟨hb.os, hb.tape, hb.output, hb.size, fun k hk _ => hb.block k hk⟩ (fun k e => by cases e)).cur

theorem only_of_below {w w' : World} (c : Nat) (hb : Below w.heap.size w w') : Only c w w' := ⟨hb.os, hb.tape, hb.output, hb.size, fun k _ hk => hb.block k hk⟩

theorem OwnF.off {W W' : World} {B b : Nat} {x : Fv} (h : OwnF W B x) (ho : Only b W W') (hne : x.u.ownBlock ≠ some b ∧ x.n.ownBlock ≠ some b) : OwnF W' B x := ⟨own_otherA h.1 ho (Ne.symm hne.1), ownN_only h.2 ho (Ne.symm hne.2)⟩

theorem OwnF.fresh {W : World} {B b : Nat} {x : Fv} (h : OwnF W B x) (hb : W.heap.size ≤ b) : x.u.ownBlock ≠ some b ∧ x.n.ownBlock ≠ some b := ⟨fun e => by have := (World.ownsRow.lt h.1 b e).2; omega, fun e => by have := (World.ownsRow.lt h.2.1 b e).2; omega⟩

theorem OwnT.off {W W' : World} {B b : Nat} {v : Value} {xs : List Fv} (h : OwnT B v xs W) (ho : Only b W W') (hne : v.ownBlock ≠ some b ∧ ∀ x ∈ xs, x.u.ownBlock ≠ some b ∧ x.n.ownBlock ≠ some b) : OwnT B v xs W' :=
  ⟨own_otherA h.own ho (Ne.symm hne.1), fun x hx => (h.hs x hx).off ho (hne.2 x hx), h.ok⟩

theorem OwnT.fresh {W : World} {B b : Nat} {v : Value} {xs : List Fv} (h : OwnT B v xs W) (hb : W.heap.size ≤ b) : v.ownBlock ≠ some b ∧ ∀ x ∈ xs, x.u.ownBlock ≠ some b ∧ x.n.ownBlock ≠ some b :=
  ⟨fun e => by have := (World.ownsRow.lt h.own b e).2; omega, fun x hx => (h.hs x hx).fresh hb⟩

theorem dn_iffD {L : Array Bool} {i j : Nat} (hj : j ≠ i) : dn (L.setIfInBounds i true) j ↔ dn L j := by
  show (L.setIfInBounds i true)[j]?.getD false = true ↔ L[j]?.getD false = true
  rw [done_eq hj]

/-- A tree of the call's own and a figure. -/
def GivenGrown (w : World) (e : Ending) (w' : World) : Prop := ∃ v xs x, e = .returned (.tuple #[v, fiV x]) ∧ OwnT w.heap.size v xs w' ∧ xs.length ≤ 17 ∧ OwnF w' w.heap.size x ∧ FiD x.f ∧ Below w.heap.size w w'

/-- What has been drawn, ahead of the results. -/
structure IG (w : World) (b6 : Nat) (v : Value) (xs : List Fv) (X : Fv) (W : World) : Prop where
  b : Below w.heap.size w W
  t : OwnT (w.heap.size + 1) v xs W
  o : OwnF W (w.heap.size + 1) X
  l6 : LBlk W b6 (fiL X)
  l3 : LBlk W w.heap.size fiZ
  ne : b6 ≠ w.heap.size

structure GD (w : World) (b6 : Nat) (v : Value) (xs : List Fv) (X : Fv) (L : Array Bool) (vs : List Value) (W : World) : Prop where
  b : Below w.heap.size w W
  t : OwnT (w.heap.size + 1) v xs W
  o : OwnF W (w.heap.size + 1) X
  l6 : LBlk W b6 (fiL X)
  l3 : ¬ dn L 3 → LBlk W w.heap.size fiZ
  r3 : dn L 3 → LBlk W w.heap.size (fiL X)
  h0 : dn L 0 → vl vs 0 = v
  h1 : dn L 1 → vl vs 1 = fiV X
  h2 : dn L 2 → vl vs 2 = v

theorem GD.slot {w : World} {b6 : Nat} {v : Value} {xs : List Fv} {X : Fv} {L : Array Bool} {ops : Array Oper} {A : Act} {W : World} (h : GD w b6 v xs X L (B10.valsOf ops A) W) {j d : Nat} (hd : dstOf ops j = some d) : A.tmps[d]?.getD undef = vl (B10.valsOf ops A) j := (B10.valsOf_at hd).symm

theorem GD.set {w : World} {b6 : Nat} {v : Value} {xs : List Fv} {X : Fv} {L : Array Bool} {vs vs' : List Value} {W : World} (h : GD w b6 v xs X L vs W) {i : Nat} (hi : i = 0 ∨ i = 1 ∨ i = 2) (hn : ¬ dn L i) (hvs : ∀ j, j ≠ i → vl vs' j = vl vs j)
    (q0 : i = 0 → vl vs' 0 = v) (q1 : i = 1 → vl vs' 1 = fiV X) (q2 : i = 2 → vl vs' 2 = v) : GD w b6 v xs X (L.setIfInBounds i true) vs' W := by
  have D : ∀ j, j ≠ i → (dn (L.setIfInBounds i true) j ↔ dn L j) := fun j hj => dn_iffD hj
  have D3 := D 3 (by omega)
  refine ⟨h.b, h.t, h.o, h.l6, fun d => h.l3 (fun e => d (D3.2 e)), fun d => h.r3 (D3.1 d), fun d => ?_, fun d => ?_, fun d => ?_⟩
  · by_cases e : i = 0
    · exact q0 e
    · rw [hvs 0 (Ne.symm e)]; exact h.h0 ((D 0 (Ne.symm e)).1 d)
  · by_cases e : i = 1
    · exact q1 e
    · rw [hvs 1 (Ne.symm e)]; exact h.h1 ((D 1 (Ne.symm e)).1 d)
  · by_cases e : i = 2
    · exact q2 e
    · rw [hvs 2 (Ne.symm e)]; exact h.h2 ((D 2 (Ne.symm e)).1 d)

theorem GD.store {w : World} {b6 : Nat} {v : Value} {xs : List Fv} {X : Fv} {L : Array Bool} {vs vs' : List Value} {W W' : World} (h : GD w b6 v xs X L vs W) (hne : b6 ≠ w.heap.size) (hs : 3 < L.size) (ho : Only w.heap.size W W') (hl : LBlk W' w.heap.size (fiL X)) (hvs : ∀ j, j ≠ 3 → vl vs' j = vl vs j) : GD w b6 v xs X (L.setIfInBounds 3 true) vs' W' := by
  have D : ∀ j, j ≠ 3 → (dn (L.setIfInBounds 3 true) j ↔ dn L j) := fun j hj => dn_iffD hj
  have z3 : dn (L.setIfInBounds 3 true) 3 := by
    show (L.setIfInBounds 3 true)[3]?.getD false = true
    rw [Array.getElem?_setIfInBounds_self_of_lt hs]; rfl
  refine ⟨h.b.trans (ho.below (Nat.le_refl _) h.b.size), h.t.call ho (Nat.lt_succ_self _), h.o.call ho (Nat.lt_succ_self _), h.l6.only ho hne, fun d => absurd z3 d, fun _ => hl, fun d => ?_, fun d => ?_, fun d => ?_⟩
  · rw [hvs 0 (by decide)]; exact h.h0 ((D 0 (by decide)).1 d)
  · rw [hvs 1 (by decide)]; exact h.h1 ((D 1 (by decide)).1 d)
  · rw [hvs 2 (by decide)]; exact h.h2 ((D 2 (by decide)).1 d)

/-- Two results, the second in a cell. -/
theorem results_tmp_wide {P : Program} {fn : Func} {p u : Tmp} {ty : TypeId} {tmps : Array Value} {w : World} {ad : Addr} {v : Value} (hr : (loadVar ty ad).run P w = .ok v w) (h : fn.results = #[.tmp u, .cell p ty]) (hp : tmps.getD p undef = .pointer (some ad)) : (results fn tmps).run P w = .ok (.tuple #[tmps.getD u undef, v]) w := by
  have hp' : tmps[p]?.getD undef = .pointer (some ad) := by simpa using hp
  simp [results, h, hp', asAddr, hr]

set_option maxRecDepth 20000 in
set_option maxHeartbeats 8000000 in
theorem Grown_draw (w : World) (a : Option Addr) (len cap : Nat) (h : Bytes w w.heap.size a len) :
    Calls Tryz.prog 10 #[.slice a len cap] w (GivenGrown w) := by
  obtain ⟨w0, ew0⟩ : ∃ w0, w.alloc (.cells #[.int .i64 0, .string ⟨#[]⟩, .string ⟨#[]⟩, .slice none 0 0, .slice none 0 0] 28) = w0 := ⟨_, rfl⟩
  have hb0 : Below w.heap.size w w0 := by rw [← ew0]; exact (Below.refl _ _).alloc (Nat.le_refl _) _
  have hl0 : LBlk w0 w.heap.size fiZ := by rw [← ew0]; exact LBlk.new w fiZ _
  have hs0 : w0.heap.size = w.heap.size + 1 := by rw [← ew0]; exact World.size_alloc _ _
  have hy0 := Bytes.below h hb0
  have HW := Lib.hid ew0
  clear ew0 h
  go_enter Tryz.func10, Tryz.ntmps10
  go_wp2_with fail
  rw [HW.out]
  refine (New_draw w0 a len cap hy0).mono ?_
  rintro e w1 ⟨rfl, hc1, ho1⟩
  obtain ⟨c, ec⟩ : ∃ c, w0.heap.size = c := ⟨_, rfl⟩
  rw [ec] at hc1 ho1 ⊢
  have hcs : c = w.heap.size + 1 := by omega
  have hb1 : Below w.heap.size w w1 := hb0.trans (ho1.below (by omega) hb0.size)
  have hl1 := hl0.only ho1 (by omega)
  have hcw1 := hc1.lt
  have HCS := Lib.hid hcs
  clear ec ho1 hl0 hb0 hy0 HW hs0 hcs
  go_wp2_with fail
  refine (l11DrawAny_draw _ c a len cap hc1).mono ?_
  rintro e w2 ⟨v, xs, rfl, hv, hlen, hc2, ho2⟩
  have hcs := HCS.out
  have hb2 : Below w.heap.size w w2 := hb1.trans (ho2.below (by omega) hb1.size)
  have hl2 := hl1.only ho2 (by omega)
  have hz12 := ho2.size
  obtain ⟨ad, cp, rfl⟩ := ownT_shape hv
  obtain ⟨d, hd⟩ : ∃ d, xs.length = d := ⟨_, rfl⟩
  have HLN := Lib.hid hlen
  rw [hd] at hlen ⊢
  have HD := Lib.hid hd
  have HV := Lib.hid (show OwnT w1.heap.size (.slice ad d cp) xs w2 by rw [← hd]; exact hv)
  clear hd hb1 hl1 hc1 ho2 hv hcs
  go_wp2_with fail
  refine (DrawFigure_draw _ c a len cap (d : Int) (by omega) (by omega) hc2).mono ?_
  rintro e w3 ⟨X, rfl, hX, hXd, hc3, ho3⟩
  have hcs := HCS.out
  have hb3 : Below w.heap.size w w3 := hb2.trans (ho3.below (by omega) hb2.size)
  have hl3 := hl2.only ho3 (by omega)
  have hv3 := HV.out.call ho3 hcw1
  have hz23 := ho3.size
  obtain ⟨w4, hst4, hl4, g4⟩ := fi_laid w3 hX.held
  have hc4 := cur_below hc3 g4
  have hb4 := hb3.trans (g4.mono hb3.size)
  have hr4 := hl3.below g4
  have hv4 := hv3.on g4
  have hX4 := hX.on g4
  have hfv := hv3.fresh (Nat.le_refl w3.heap.size)
  have hfx := hX.fresh (Nat.le_refl w3.heap.size)
  obtain ⟨b6, eb6⟩ : ∃ b6, w3.heap.size = b6 := ⟨_, rfl⟩
  have hc3s := hc3.lt
  rw [eb6] at hl4 hfv hfx hc3s
  have HB6 := Lib.hid eb6
  have HST := Lib.hid hst4
  have HFV := Lib.hid hfv
  have HFX := Lib.hid hfx
  have hne : b6 ≠ w.heap.size := by omega
  clear hb2 hl2 hb3 hl3 hv3 hX hst4 hc3 ho3 hc2 g4 eb6 hfv hfx hcs
  go_wp2_with ((with_reducible refine wp_store_at HST.out ?_ ?_); exact And.intro rfl (And.intro rfl (And.intro rfl rfl)))
  rw [HB6.out]
  refine (Once_draw _ c a len cap 6 hc4).mono ?_
  rintro e w5 ⟨q, rfl, hc5, ho5⟩
  have hcs := HCS.out
  have hIG : IG w b6 (.slice ad d cp) xs X w5 := ⟨hb4.trans (ho5.below (by omega) hb4.size), (hv4.call ho5 hcw1).low (by omega), (hX4.call ho5 (by omega)).low (by omega), hl4.only ho5 (by omega), hr4.only ho5 (by omega), hne⟩
  have hv5 := hv4.call ho5 hcw1
  have hX5 := hX4.call ho5 (show c < w2.heap.size by omega)
  clear hb4 hr4 hv4 hX4 hl4 hc4 ho5 hcs
  have HLT := Lib.hid hc5
  clear hc5
  go_upto_if 16 with (fail)
  go_cut [] from 17 to 19 (fun wx => ∃ Z, IG w b6 (.slice ad d cp) xs Z wx ∧ FiD Z.f)
  case first =>
    cases q
    · go_wp2_with fail
      go_meet
      exact ⟨X, hIG, hXd⟩
    · go_wp2_with fail
      refine (From_draw _ c a len cap (-2) 6 HLT.out (by decide) (by decide) (by decide)).mono ?_
      rintro e w6 ⟨z, ⟨hz0, hz1⟩, rfl, hc6, ho6⟩
      have hcs := HCS.out
      have hl6 := hIG.l6.only ho6 (by omega)
      obtain ⟨d0, f0⟩ := hl6.2 0 _ rfl
      have hl7 := hl6.set 0 (.int .i64 z) (by show 0 < 5; decide)
      have hon7 : Only b6 w6 (w6.setCell ⟨b6, 0, none⟩ (.int .i64 z)) := (Only.refl _ w6).setCell (p := ⟨b6, 0, none⟩) rfl _
      have hv7 := (hv5.call ho6 hcw1).off hon7 HFV.out
      have hX7 := (hX5.call ho6 (show c < w2.heap.size by omega)).off hon7 HFX.out
      have hb7 := (hIG.b.trans (ho6.below (by omega) hIG.b.size)).trans (hon7.below (by omega) (Nat.le_trans hIG.b.size ho6.size))
      have hr7 := (hIG.l3.only ho6 (by omega)).only hon7 (Ne.symm hne)
      have HI := Lib.hid (show IG w b6 (.slice ad d cp) xs ⟨⟨z, X.f.tag, X.f.id, X.f.bs, X.f.ns⟩, X.u, X.n⟩ (w6.setCell ⟨b6, 0, none⟩ (.int .i64 z)) from ⟨hb7, hv7.low (by omega), OwnF.low hX7 (by omega), hl7, hr7, hne⟩)
      have HXD := Lib.hid (show FiD (⟨z, X.f.tag, X.f.id, X.f.bs, X.f.ns⟩ : Fi) from ⟨⟨by show -1000 ≤ z; omega, by show z ≤ 1000; omega⟩, hXd.2⟩)
      clear hl7 hon7 hv7 hX7 hb7 hr7 hl6 hcs ho6 hc6 hIG hv5 hX5
      go_wp2_with fail
      go_meet
      exact ⟨_, HI.out, HXD.out⟩
  case rest =>
    obtain ⟨Z, hI, hZd⟩ := hcut
    clear hIG hv5 hX5 HLT HFV HFX HST HV
    go_upto_region 6 with fail
    have D : Below wc.heap.size wc wc.drew := ⟨rfl, rfl, rfl, Nat.le_refl _, fun _ _ => rfl⟩
    refine region_joint (by kernel_rfl) (fun L vs W => GD w b6 (.slice ad d cp) xs Z L vs W) (none :: none :: some 2 :: none :: none :: none :: none :: none :: none :: none :: none :: none :: none :: none :: none :: none :: none :: none :: none :: none :: some 0 :: some 1 :: []) (by kernel_rfl) (by kernel_rfl) ?_ ?_ ?_
    · exact ⟨hI.b.trans (D.mono hI.b.size), hI.t.on D, hI.o.on D, hI.l6.below D, fun _ => hI.l3.below D, fun e => (none_done e).elim, fun e => (none_done e).elim, fun e => (none_done e).elim, fun e => (none_done e).elim⟩
    · intro i hi' L A W hJ hLs hn hb hst
      have hi2 : i < 4 := hi'
      have hLs : L.size = 4 := hLs
      have hcase : i = 0 ∨ i = 1 ∨ i = 2 ∨ i = 3 := by omega
      have hnn : ¬ L[i]?.getD false = true := by rw [hn]; decide
      clear hi' hi2
      rcases hcase with rfl | rfl | rfl | rfl
      · have s5 : A.tmps[5]?.getD undef = .slice ad d cp := (hst 5 (by kernel_rfl)).trans rfl
        exact wpOp_of rfl rfl (wp_value (v := .slice ad d cp) (W' := W) (by simp [execOp, Act.eval, s5, go_sem]) ⟨_, rfl, fun vs hvs hv => hJ.set (i := 0) (Or.inl rfl) hnn hvs (fun _ => hv 20 rfl) (fun e => absurd e (by decide)) (fun e => absurd e (by decide))⟩)
      · have s6 : A.tmps[6]?.getD undef = .pointer (some ⟨b6, 0, none⟩) := (hst 6 (by kernel_rfl)).trans rfl
        exact wpOp_of rfl rfl (wp_value (v := fiV Z) (W' := W) (by exact exec_load rfl (by simpa [Act.eval] using s6) (load_blk hJ.l6 fi_wide)) ⟨_, rfl, fun vs hvs hv => hJ.set (i := 1) (Or.inr (Or.inl rfl)) hnn hvs (fun e => absurd e (by decide)) (fun _ => hv 21 rfl) (fun e => absurd e (by decide))⟩)
      · have s20 := (hJ.slot (j := 0) (d := 20) (by kernel_rfl)).trans (hJ.h0 (hb 0 (by kernel_rfl)))
        exact wpOp_of rfl rfl (wp_value (v := .slice ad d cp) (W' := W) (by simp [execOp, Act.eval, s20, go_sem]) ⟨_, rfl, fun vs hvs hv => hJ.set (i := 2) (Or.inr (Or.inr rfl)) hnn hvs (fun e => absurd e (by decide)) (fun e => absurd e (by decide)) (fun _ => hv 2 rfl)⟩)
      · have s3 : A.tmps[3]?.getD undef = .pointer (some ⟨w.heap.size, 0, none⟩) := (hst 3 (by kernel_rfl)).trans rfl
        have s21 := (hJ.slot (j := 1) (d := 21) (by kernel_rfl)).trans (hJ.h1 (hb 1 (by kernel_rfl)))
        obtain ⟨w3', hst3, hl3', ho3', _⟩ := store_blk (P := Tryz.prog) (ty := 28) (vs := fiL Z) (hJ.l3 hnn) fi_wide rfl (fiL_one hJ.o.held)
        exact wpOp_of rfl rfl (wp_stored (W' := w3') (exec_store rfl (by simpa [Act.eval] using s3) (by show A.eval (.tmp 21) = fiV Z; simpa [Act.eval] using s21) hst3) ⟨undef, rfl, fun vs hvs hv => hJ.store hne (by omega) ho3' hl3' hvs⟩)
    · intro L W vs hall hJ
      have h2 := hJ.h2 (hall 2 (by decide))
      have hr := hJ.r3 (hall 3 (by decide))
      unfold vl at h2
      simp only [RI.mergeL]
      rw [h2]
      have HR := Lib.hid (load_blk (P := Tryz.prog) (ty := 28) hr fi_wide)
      have HT := Lib.hid (hJ.t.low (Nat.le_succ _))
      have HO := Lib.hid (hJ.o.low (Nat.le_succ _))
      have hb := hJ.b
      clear hJ h2 hr hI D
      go_wp2_with fail
      exact bodyPost_ret (results_tmp_wide HR.out rfl rfl) rfl ⟨_, xs, Z, rfl, HT.out, HLN.out, HO.out, hZd, hb⟩

end Go.Proofs.YtgaggpnlimchkaaGreatDoor.B11

namespace Go.Proofs.YtgaggpnlimchkaaGreatDoor.B11
open Go.Proofs.YtgaggpnlimchkaaGreatDoor.P1 Go.Proofs.YtgaggpnlimchkaaGreatDoor.B1 Go.Proofs.YtgaggpnlimchkaaGreatDoor.B2 Go.Proofs.YtgaggpnlimchkaaGreatDoor.T1 Go.Proofs.YtgaggpnlimchkaaGreatDoor.BT Go.Proofs.YtgaggpnlimchkaaGreatDoor.P5 Go.Proofs.YtgaggpnlimchkaaGreatDoor.B5 Go.Proofs.YtgaggpnlimchkaaGreatDoor.P6 Go.Proofs.YtgaggpnlimchkaaGreatDoor.P9 Go.Proofs.YtgaggpnlimchkaaGreatDoor.B6 Go.Proofs.YtgaggpnlimchkaaGreatDoor.B9 Go.Proofs.YtgaggpnlimchkaaGreatDoor.D1 Go.Proofs.YtgaggpnlimchkaaGreatDoor.D2 Go.Proofs.YtgaggpnlimchkaaGreatDoor.D5 Go.Proofs.YtgaggpnlimchkaaGreatDoor.DB Go.Proofs.YtgaggpnlimchkaaGreatDoor.D9 Go.Proofs.YtgaggpnlimchkaaGreatDoor.W8 Go.Proofs.YtgaggpnlimchkaaGreatDoor.RC Go.Proofs.YtgaggpnlimchkaaGreatDoor.RI Go.Proofs.YtgaggpnlimchkaaGreatDoor.P10 Go.Proofs.YtgaggpnlimchkaaGreatDoor.B10 Go.Proofs.YtgaggpnlimchkaaGreatDoor.P11
open Go.ChangeShapes Go.WideShapes Go.ChangeAt Go.RowKit
set_option linter.unusedVariables false

theorem fiD_fitsT {x : Fv} (h : FiD x.f) : FitsF x := by
  obtain ⟨h0, h1, h2, h3, h4, h5, h6⟩ := h
  exact ⟨by omega, by omega, by omega, by omega, fun s hs => by have := h4 s hs; omega, by omega, fun n hn => by
    obtain ⟨n0, n1, n2⟩ := h6 n hn
    exact ⟨by omega, by omega⟩⟩

/-- What a way up is. -/
theorem path_facts {t : List Fi} {i : Int} {l : List Int} (h : path t i = l) (hn : 0 < l.length) : 0 ≤ i ∧ i < (t.length : Int) ∧ l[0]? = some i ∧ l[l.length - 1]? = some 0 ∧ ∀ k x y, l[k]? = some x → l[k + 1]? = some y → y < x ∧ aboveAt t x = y ∧ 0 ≤ x ∧ x < (t.length : Int) := by
  unfold path at h
  split at h
  next hq =>
    unfold hasFig at hq
    simp only [Bool.and_eq_true, decide_eq_true_eq] at hq
    obtain ⟨⟨h0, h1⟩, ht⟩ := hq
    subst h
    refine ⟨h0, h1, by rw [wayUp_cons ht h0 h1]; rfl, wayUp_last ht i.toNat i (Nat.le_refl _) h0 h1, fun k x y hx hy => ?_⟩
    have hs := wayUp_step ht k i x y h1 hx hy
    have hm := wayUp_mem ht i.toNat i (Nat.le_refl _) h1 x (List.mem_of_getElem? hx)
    exact ⟨hs.1, hs.2, hm.1, by omega⟩
  next hq => subst h; cases hn

theorem intRow_slcT {w : World} {v : Value} {B : Nat} {l : List Int} (h : IntRow w v B l) : ∃ a c, v = .slice a l.length c ∧ l.length ≤ c ∧ (∀ k x, l[k]? = some x → ∃ g, a = some ⟨g, 0, none⟩ ∧ g < w.heap.size ∧ w.cell? ⟨g, k, none⟩ = some (.int .i64 x)) := by
  obtain ⟨a, c, e, hc⟩ := intRow_cap h
  refine ⟨a, c, e, hc, fun k x hx => ?_⟩
  obtain ⟨g, ⟨n', c', e'⟩, h1, h2⟩ := intRow_cell h hx
  rw [e] at e'
  injection e' with e' _ _
  exact ⟨g, e', h1, h2⟩

theorem fi_toAt (g off L C j : Nat) (h1 : j ≤ L) (hLC : L ≤ C) (w : World) : (Instr.sliceAt 24 (.slice (some ⟨g, off, none⟩) L C) none (some (.int .i64 (j : Int))) none).run Tryz.prog w = .ok (.slice (some ⟨g, off, none⟩) j C) w := by
  have z3 := Tryz.sizeOf28
  have h' : (j : Int) ≤ (C : Int) := by omega
  have h2 : (0 : Int) ≤ (j : Int) := by omega
  go_simp

theorem fiSlc_to {w : World} {g off n cap : Nat} {ys : List Fv} (h : FiSlc w (.slice (some ⟨g, off, none⟩) n cap) ys) (hn : ys.length = n) {j : Nat} (hj : j ≤ n) (hn1 : 1 ≤ n) : FiSlc w (.slice (some ⟨g, off, none⟩) j cap) (ys.take j) := by
  obtain ⟨⟨a, c, e, h1, h2, h3⟩, hh⟩ := h
  rw [fiRs_len] at e h1
  injection e with e1 e2 e3
  subst e1 e3
  have hl : (ys.take j).length = j := by rw [List.length_take]; omega
  refine ⟨⟨_, _, by rw [fiRs_len, hl], by rw [fiRs_len, hl]; omega, h2, fun _ => ?_⟩, fun x hx => hh x (List.mem_of_mem_take hx)⟩
  obtain ⟨g', off', e', hat⟩ := h3 (by intro e0; have := List.map_eq_nil_iff.1 e0; subst this; simp at hn; omega)
  cases e'
  refine ⟨_, _, rfl, fun i r hr k v hv => ?_, hat.lt⟩
  refine hat.cells i r ?_ k v hv
  unfold fiRs at hr ⊢
  rw [List.map_take, List.getElem?_take] at hr
  split at hr
  · exact hr
  · cases hr

theorem grown_lenT (t : List Fi) (f : Fi) : (grown t f).1.length ≤ t.length + 1 := by
  unfold grown
  split
  · split
    · simp
    · simp
  · simp

theorem grown_memT {t : List Fi} {f p : Fi} (h : p ∈ (grown t f).1) : p ∈ t ∨ p = f := by
  unfold grown at h
  split at h
  · split at h
    · rcases List.mem_append.1 h with h | h
      · exact Or.inl h
      · exact Or.inr (by simpa using h)
    · exact Or.inl h
  · cases h

theorem grown_no {t : List Fi} {f : Fi} {F : List Fi} {b : Bool} (h : grown t f = (F, b)) (ht : treeOk t = false) : F = [] ∧ b = false := by
  unfold grown at h
  rw [ht] at h
  simp at h
  exact ⟨h.1, h.2⟩

theorem grown_yes {t : List Fi} {f : Fi} {F : List Fi} {b : Bool} (h : grown t f = (F, b)) (ht : treeOk t = true) : (b = false ∧ F = t) ∨ (b = true ∧ F = t ++ [f] ∧ treeOk F = true) := by
  have h' := h
  unfold grown at h
  rw [ht] at h
  simp only [if_true] at h
  cases hm : mayStand f t.length
  · rw [hm] at h
    simp at h
    exact Or.inl ⟨h.2, h.1.symm⟩
  · rw [hm] at h
    simp at h
    exact Or.inr ⟨h.2, h.1.symm, by rw [← h.1, treeOk_snoc ht, hm]⟩

set_option maxRecDepth 100000 in
set_option maxHeartbeats 8000000 in
theorem trees_walk (A0 : Option Addr) (len0 cap0 : Nat) (w : World) (w0 : len0 ≤ 4096 → Bytes w w.heap.size A0 len0) (L : B5.Pow w) :
    Calls Tryz.prog 3 #[.slice A0 len0 cap0] w (Ans (.bool true) w) := by
  by_cases hbig : 4096 < len0
  · go_enter Tryz.func3, Tryz.ntmps3
    go_wp2
    go_ret
    exact ⟨rfl, Below.refl _ _⟩
  · have hb := w0 (by omega)
    clear w0
    have HDP := Lib.hid (fun (W : World) (hW : Below w.heap.size w W) => Path_draw W A0 len0 cap0 (Bytes.below hb hW))
    have HL := Lib.hid L
    go_enter Tryz.func3, Tryz.ntmps3
    go_wp2_with (first | (go_at_call 9; go_in) | fail)
    refine (Grown_draw _ A0 len0 cap0 hb).mono ?_
    rintro e w1 ⟨v, xs, X, rfl, hT, hlen, hX, hXd, g1⟩
    have hf : ∀ x ∈ xs, FitsF x := fun x hx => fiD_fitsT (hT.ok x hx)
    have hfx : FitsF X := fiD_fitsT hXd
    have hbs : ∀ p ∈ fis xs, p.bs.length ≤ 2000000 ∧ p.ns.length ≤ 2000000 := fitsF_lensG hf
    have hbx : X.f.bs.length ≤ 2000000 ∧ X.f.ns.length ≤ 2000000 := ⟨by have h1 : X.f.bs.length ≤ 1048576 := hfx.2.2.2.1; omega, by have h1 : X.f.ns.length ≤ 1048576 := hfx.2.2.2.2.2.1; omega⟩
    obtain ⟨w2, hst2, hl2, g2⟩ := fi_laid w1 hX.held
    have w2B := g1.trans (g2.mono g1.size)
    have hTS := hT.slc.on g2
    have hXH := hX.held.on g2
    have HST := Lib.hid hst2
    obtain ⟨b4, eb4⟩ : ∃ b4, w1.heap.size = b4 := ⟨_, rfl⟩
    rw [eb4] at hl2
    have HB4 := Lib.hid eb4
    have HLX := Lib.hid (fun (W : World) (hW : Below w2.heap.size w2 W) => (show (loadVar 28 ⟨b4, 0, none⟩).run Tryz.prog W = .ok (fiV X) W from load_blk (hl2.below hW) fi_wide))
    have HLX1 := Lib.hid (show (loadVar 28 ⟨w1.heap.size, 0, none⟩).run Tryz.prog w2 = .ok (fiV X) w2 from by rw [eb4]; exact HLX.out w2 (Below.refl _ _))
    have HXH := Lib.hid (fun (W : World) (hW : Below w2.heap.size w2 W) => hXH.on hW)
    have HTS := Lib.hid (fun (W : World) (hW : Below w2.heap.size w2 W) => hTS.on hW)
    obtain ⟨F, is, hq⟩ : ∃ F is, grown (fis xs) X.f = (F, is) := ⟨_, _, rfl⟩
    have HQ := Lib.hid hq
    have HI := Lib.hid (fun (W : World) (hW : Below w2.heap.size w2 W) => (by have := Grown_impl xs X v W (HL.out.on (w2B.trans (hW.mono w2B.size))) (hTS.on hW) hf (by omega) (hXH.on hW) hfx; rw [hq] at this; exact this : Calls Tryz.prog 11 #[v, fiV X] W (GrownC (F, is) W)))
    have HS := Lib.hid (fun (W : World) (hW : Below w2.heap.size w2 W) => (by have := Grown_spec xs X v W (hTS.on hW) hf (by omega) (hXH.on hW) hfx; rw [hq] at this; exact this : Calls Tryz.prog 14 #[v, fiV X] W (GrownC (F, is) W)))
    obtain ⟨tk, htk⟩ : ∃ tk, treeOk (fis xs) = tk := ⟨_, rfl⟩
    have HTI := Lib.hid (fun (W : World) (hW : Below w2.heap.size w2 W) => (by have := TreeOk_impl xs v W (HL.out.on (w2B.trans (hW.mono w2B.size))) (hTS.on hW) hf (by omega); rw [htk] at this; exact this : Calls Tryz.prog 18 #[v] W (Ans (.bool tk) W)))
    have HTP := Lib.hid (fun (W : World) (hW : Below w2.heap.size w2 W) => (by have := TreeOk_spec xs v W (hTS.on hW) hf (by omega); rw [htk] at this; exact this : Calls Tryz.prog 19 #[v] W (Ans (.bool tk) W)))
    have HTK := Lib.hid htk
    have htt : (tk != tk) = false := by simp
    have hisis : (is != is) = false := by simp
    have hql := grown_lenT (fis xs) X.f
    have hqm : ∀ p ∈ F, p.bs.length ≤ 2000000 ∧ p.ns.length ≤ 2000000 := fun p hp => by
      rcases grown_memT (t := fis xs) (f := X.f) (p := p) (by rw [hq]; exact hp) with h | h
      · exact hbs p h
      · rw [h]; exact hbx
    rw [hq, fis_len] at hql
    dsimp only at hql
    obtain ⟨n, hn⟩ : ∃ n, xs.length = n := ⟨_, rfl⟩
    rw [hn] at hql hlen
    obtain ⟨N, hN⟩ : ∃ N, F.length = N := ⟨_, rfl⟩
    rw [hN] at hql
    have HFN := Lib.hid (fun (zs : List Fv) (hz : fis zs = F) => (show zs.length = N from by rw [← hN, ← hz, fis_len]))
    have HLT := Lib.hid (fun (v' v2 : Value) (zs ys : List Fv) (W : World) (h1 : FiSlc W v' zs) (h2 : FiSlc W v2 ys) (hz : fis zs = F) (hy : fis ys = F) => likeTree_same zs ys v' v2 W h1 h2 (hz.trans hy.symm) (by rw [hz]; exact hqm) (by
      have := congrArg List.length hz
      rw [fis_len] at this
      omega))
    obtain ⟨a1, cap1, rfl, hnc1, _, _⟩ := hTS.form
    rw [hn] at hnc1 HI HS HTI HTP HTS
    rw [hn]
    have HNN := Lib.hid hn
    have HNF := Lib.hid hN
    have HBS := Lib.hid hbs
    have HBX := Lib.hid hbx
    have HFF := Lib.hid hf
    have HFX := Lib.hid hfx
    have HI2 := Lib.hid (HI.out w2 (Below.refl _ _))
    clear hT hX hXd hf hfx hbs hbx hst2 hl2 g2 hTS hXH eb4 hq htk hqm hn hN hb L
    go_wp2_with (first | ((with_reducible refine wp_load_at HLX1.out ?_ ?_); exact And.intro rfl (And.intro rfl rfl)) | ((with_reducible refine wp_store_at HST.out ?_ ?_); exact And.intro rfl (And.intro rfl (And.intro rfl rfl))))
    rw [HB4.out]
    refine HI2.out.mono ?_
    rintro e w3 ⟨vG, bG, zs, rfl, hoG, hfG, hbG, g3⟩
    dsimp only at hfG hbG
    subst hbG
    obtain ⟨aG, cG, heG⟩ := hoG.form
    rw [HFN.out zs hfG] at heG
    subst heG
    have w3B := w2B.trans (g3.mono w2B.size)
    have h23 := g3
    have HFG := Lib.hid hfG
    have HDP3 := Lib.hid (HDP.out w3 w3B)
    clear g3 HI2 HLX1 HST HI hfG
    go_wp2_with fail
    refine HDP3.out.mono ?_
    rintro e w4 ⟨vq, qs, i, rfl, hQ, hql2, hi0, hi1, g4⟩
    have w4B := w3B.trans (g4.mono w3B.size)
    have h24 := h23.trans (g4.mono h23.size)
    have hoG4 := hoG.on g4
    have hQS := hQ.slc
    have hqf : ∀ x ∈ qs, FitsF x := fun x hx => fiD_fitsT (hQ.ok x hx)
    have HIP := Lib.hid (fun (W : World) (hW : Below w4.heap.size w4 W) => Path_impl qs i vq W (HL.out.on (w4B.trans (hW.mono w4B.size))) (hQS.on hW) hqf (by omega))
    have HSP := Lib.hid (fun (W : World) (hW : Below w4.heap.size w4 W) => Path_spec qs i vq W (hQS.on hW) hqf (by omega))
    obtain ⟨aq, cq, rfl, hncq, _, hAq⟩ := hQS.form
    obtain ⟨nq, hnq⟩ : ∃ nq, qs.length = nq := ⟨_, rfl⟩
    obtain ⟨l, hl⟩ : ∃ l, path (fis qs) i = l := ⟨_, rfl⟩
    have hlm : l.length ≤ 17 := by
      have : l.length ≤ (fis qs).length := by rw [← hl]; unfold path; split; exact wayUp_len i; exact Nat.zero_le _
      rw [fis_len] at this
      omega
    obtain ⟨m, hm⟩ : ∃ m, l.length = m := ⟨_, rfl⟩
    rw [hnq] at hncq hql2 HIP HSP ⊢
    rw [hl] at HIP HSP
    rw [hm] at hlm
    have HAQ := Lib.hid hAq
    have HNQ := Lib.hid hnq
    have HLP := Lib.hid hl
    have HM := Lib.hid hm
    have HIP4 := Lib.hid (HIP.out w4 (Below.refl _ _))
    clear g4 hQ hQS hqf hAq hnq hl hm hoG h23 w3B HDP3 HDP HIP
    unfold PathAns at HIP4 HSP
    go_wp2_with fail
    refine HIP4.out.mono ?_
    rintro e w5 ⟨pv, rfl, hpr, g5⟩
    obtain ⟨ap, cp, hpe, hpc, hcells⟩ := intRow_slcT hpr
    rw [HM.out] at hpe hpc
    subst hpe
    have w5B := w4B.trans (g5.mono w4B.size)
    have h25 := h24.trans (g5.mono h24.size)
    have h45 := g5
    have hoG5 := hoG4.on g5
    have HCE := Lib.hid hcells
    have HS5 := Lib.hid (HS.out w5 h25)
    have HLX5 := Lib.hid (HLX.out w5 h25)
    clear g5 hoG4 hcells h24 w4B HIP4
    go_wp2_with ((with_reducible refine wp_load_at HLX5.out ?_ ?_); exact And.intro rfl (And.intro rfl rfl))
    refine HS5.out.mono ?_
    rintro e w6 ⟨vS, bS, zs0, rfl, hoS, hfS, hbS, g6⟩
    dsimp only at hfS hbS
    subst hbS
    obtain ⟨aS, cS, heS⟩ := hoS.form
    rw [HFN.out zs0 hfS] at heS
    subst heS
    have w6B := w5B.trans (g6.mono w5B.size)
    have h26 := h25.trans (g6.mono h25.size)
    have h46 := h45.trans (g6.mono h45.size)
    have h56 := g6
    have hoG6 := hoG5.on g6
    have HLT6 := Lib.hid (HLT.out _ _ zs zs0 w6 hoG6.slc hoS.slc HFG.out hfS)
    clear g6 hoG5 hoS hfS h25 h45 w5B HS5 HLX5 HS
    go_wp2_with fail
    refine HLT6.out.mono ?_
    rintro e w7 ⟨rfl, g7⟩
    have w7B := w6B.trans (g7.mono w6B.size)
    have h27 := h26.trans (g7.mono h26.size)
    have h47 := h46.trans (g7.mono h46.size)
    have h57 := h56.trans (g7.mono h56.size)
    have hoG7 := hoG6.on g7
    have HSP7 := Lib.hid (HSP.out w7 h47)
    clear g7 hoG6 h26 h46 h56 w6B HLT6 HSP
    go_wp2_with fail
    refine HSP7.out.mono ?_
    rintro e w8 ⟨pw, rfl, hpw, g8⟩
    have w8B := w7B.trans (g8.mono w7B.size)
    have h28 := h27.trans (g8.mono h27.size)
    have h48 := h47.trans (g8.mono h47.size)
    have h58 := h57.trans (g8.mono h57.size)
    have hoG8 := hoG7.on g8
    have HLI := Lib.hid (likeInts_same l _ _ _ _ w8 (own_below hpr h58) hpw (by rw [HM.out]; omega))
    obtain ⟨aw, cw, hwe⟩ := intRow_shape hpw
    rw [HM.out] at hwe
    subst hwe
    clear g8 hoG7 h27 h47 h57 w7B hpw hpr HSP7
    go_wp2_with fail
    refine HLI.out.mono ?_
    rintro e w9 ⟨rfl, g9⟩
    have w9B := w8B.trans (g9.mono w8B.size)
    have h29 := h28.trans (g9.mono h28.size)
    have h49 := h48.trans (g9.mono h48.size)
    have h59 := h58.trans (g9.mono h58.size)
    have hoG9 := hoG8.on g9
    have HTI9 := Lib.hid (HTI.out w9 h29)
    clear g9 hoG8 h28 h48 h58 w8B HLI HTI
    go_wp2_with fail
    refine HTI9.out.mono ?_
    rintro e wa ⟨rfl, ga⟩
    have waB := w9B.trans (ga.mono w9B.size)
    have h2a := h29.trans (ga.mono h29.size)
    have h4a := h49.trans (ga.mono h49.size)
    have h5a := h59.trans (ga.mono h59.size)
    have hoGa := hoG9.on ga
    have HTPa := Lib.hid (HTP.out wa h2a)
    clear ga hoG9 h29 h49 h59 w9B HTI9
    go_wp2_with fail
    refine HTPa.out.mono ?_
    rintro e wb ⟨rfl, gb⟩
    have wbB := waB.trans (gb.mono waB.size)
    have h2b := h2a.trans (gb.mono h2a.size)
    have h4b := h4a.trans (gb.mono h4a.size)
    have h5b := h5a.trans (gb.mono h5a.size)
    have hoGb := hoGa.on gb
    clear gb hoGa h2a h4a h5a waB HTPa
    go_upto_if 66 with (fail)
    go_cut [2, 12] from 64 to 112 (fun s2 s12 wx => Below wb.heap.size wb wx)
    case first =>
      by_cases hm0 : m = 0
      · have hm0' : ¬ (0 : Int) < (m : Int) := by omega
        clear hm0
        go_wp2_with fail
        go_meet
        exact Below.refl _ _
      · obtain ⟨pi0, pi1, pl0, plm, pst⟩ := path_facts HLP.out (by rw [HM.out]; omega)
        rw [HM.out] at plm
        rw [fis_len, HNQ.out] at pi1
        obtain ⟨M, hM⟩ : ∃ M, m - 1 = M := ⟨_, rfl⟩
        have hsub : IntKind.i64.wrap ((m : Int) - 1) = (M : Int) := by rw [IntKind.wrap_i64]; omega
        have hm1 : (0 : Int) < (m : Int) := by omega
        have hMm : (M : Int) < (m : Int) := by omega
        have hM0 : (0 : Int) ≤ (M : Int) := by omega
        have hmc : (m : Int) ≤ (cp : Int) := by omega
        rw [hM] at plm
        obtain ⟨gp, rfl, hgl, hc0⟩ := HCE.out 0 i pl0
        obtain ⟨gp', e', _, hcM⟩ := HCE.out M 0 plm
        obtain rfl : gp = gp' := by injection e' with e'; injection e'
        have HC := Lib.hid (fun (k : Nat) (x : Int) (hx : l[k]? = some x) (W : World) (hW : Below w5.heap.size w5 W) => (show W.cell? ⟨gp, k, none⟩ = some (.int .i64 x) from by
          obtain ⟨g', e', h1, h2⟩ := HCE.out k x hx
          obtain rfl : gp = g' := by injection e' with e'; injection e'
          exact (hW.cell (p := ⟨gp, k, none⟩) h1).trans h2))
        have c0 := HC.out 0 i pl0 wb h5b
        have cM := HC.out M 0 plm wb h5b
        have hii : (i != i) = false := by simp
        have HPS := Lib.hid pst
        have HMM := Lib.hid hM
        clear hm0 pl0 plm pst hM hc0 hcM e' hgl
        have hm1n : 0 < m := by omega
        simp only [hm1n, decide_true]
        go_wp2_with fail
        go_loopg [12] (m - 1) (fun kx s12 wr => ∃ k : Nat, s12 = .int .i64 (k : Int) ∧ 1 ≤ k ∧ kx + k = m ∧ Below wb.heap.size wb wr)
        case atStart => exact ⟨1, rfl, Nat.le_refl _, by omega, Below.refl _ _⟩
        case round =>
          obtain ⟨k, rfl, hk1, hkx, hB⟩ := hrel
          clear c0 cM
          by_cases hlt : k < m
          · have hlt' : (k : Int) < (m : Int) := by omega
            have i0' : (0 : Int) ≤ (k : Int) := by omega
            obtain ⟨K, hK⟩ : ∃ K, k - 1 = K := ⟨_, rfl⟩
            have hksub : IntKind.i64.wrap ((k : Int) - 1) = (K : Int) := by rw [IntKind.wrap_i64]; omega
            have hK0 : (0 : Int) ≤ (K : Int) := by omega
            have hKm : (K : Int) < (m : Int) := by omega
            obtain ⟨y, hy⟩ : ∃ y, l[k]? = some y := ⟨_, List.getElem?_eq_getElem (by rw [HM.out]; exact hlt)⟩
            obtain ⟨x, hx⟩ : ∃ x, l[K]? = some x := ⟨_, List.getElem?_eq_getElem (by rw [HM.out]; omega)⟩
            obtain ⟨hyx, hab, hx0, hx1⟩ := HPS.out K x y hx (by rw [← hK, show k - 1 + 1 = k by omega]; exact hy)
            rw [fis_len, HNQ.out] at hx1
            obtain ⟨j, rfl⟩ : ∃ j : Nat, x = (j : Int) := ⟨x.toNat, by omega⟩
            obtain ⟨f, hf⟩ : ∃ f, qs[j]? = some f := ⟨_, List.getElem?_eq_getElem (by rw [HNQ.out]; omega)⟩
            rw [aboveAt_at hf] at hab
            obtain ⟨gq, offq, rfl, hatq⟩ := HAQ.out (by intro e0; rw [e0] at hf; cases hf)
            have h5r := h5b.trans (hB.mono h5b.size)
            have h4r := h4b.trans (hB.mono h4b.size)
            have cy := HC.out k y hy wr h5r
            have cx := HC.out K (j : Int) hx wr h5r
            have cf := (fi_cells (hatq.on h4r) hf).1
            rw [hab] at cf
            have hge : ¬ (j : Int) ≤ y := by omega
            have hyy : (y != y) = false := by simp
            have hncq' : (nq : Int) ≤ (cq : Int) := by omega
            have hj0 : (0 : Int) ≤ (j : Int) := by omega
            clear hy hx hyx hab hf hatq h5r h4r hK HAQ
            go_upto_region 16 with fail
            go_quiet (fail)
            go_wp2_with fail
            go_roundg (m - (k + 1))
            case measure => omega
            case rel => exact ⟨k + 1, by go_num, by omega, by omega, ⟨hB.os, hB.tape, hB.output, hB.size, hB.block⟩⟩
          · have hlt' : ¬ (k : Int) < (m : Int) := by omega
            go_wp2_with fail
            go_meet
            exact hB
    case rest =>
      have h2c := h2b.trans (hcut.mono h2b.size)
      have wcB := wbB.trans (hcut.mono wbB.size)
      have hoGc := hoGb.on hcut
      clear h2b wbB hoGb h4b h5b hcut HCE HLP HAQ HNQ HM
      cases tk
      · obtain ⟨hF, hbS⟩ := grown_no HQ.out HTK.out
        subst hbS
        have hN0 : ((N : Int) == 0) = true := by
          have := HNF.out
          rw [hF] at this
          simp at this
          simp [← this]
        have HTc := Lib.hid (HTP.out wc h2c)
        clear hF
        go_wp2_with fail
        refine HTc.out.mono ?_
        rintro e wd ⟨rfl, gd⟩
        go_wp2_with fail
        go_ret
        exact ⟨rfl, wcB.trans (gd.mono wcB.size)⟩
      · rcases grown_yes HQ.out HTK.out with ⟨hbS, hF⟩ | ⟨hbS, hF, hok⟩
        · subst hbS
          have HTc := Lib.hid (HTP.out wc h2c)
          have HF := Lib.hid hF
          clear hF
          go_wp2_with fail
          refine HTc.out.mono ?_
          rintro e wd ⟨rfl, gd⟩
          have wdB := wcB.trans (gd.mono wcB.size)
          have h2d := h2c.trans (gd.mono h2c.size)
          have HLd := Lib.hid (HLT.out _ (.slice a1 n cap1) zs xs wd (hoGc.on gd).slc (HTS.out wd h2d) HFG.out HF.out.symm)
          clear gd HTc
          go_wp2_with fail
          refine HLd.out.mono ?_
          rintro e we ⟨rfl, ge⟩
          go_wp2_with fail
          go_ret
          exact ⟨rfl, wdB.trans (ge.mono wdB.size)⟩
        · subst hbS
          have hFz := HFG.out
          have hfl : (fis xs).length = n := by rw [fis_len]; exact HNN.out
          have hzl := HFN.out zs hFz
          have hN1 : N = n + 1 := by rw [← HNF.out, hF, List.length_append, hfl]; rfl
          have hzx : fis zs = fis (xs ++ [X]) := by rw [hFz, hF, fis_app]
          have hzf : ∀ z ∈ zs, FitsF z := fun z hz => fitsF_likeG (xs := xs ++ [X]) (fun y hy => by
            rcases List.mem_append.1 hy with hy | hy
            · exact HFF.out y hy
            · obtain rfl : y = X := by simpa using hy
              exact HFX.out) hzx hz
          have hz20 : fis (zs.take n) = fis xs := by
            unfold fis
            rw [List.map_take]
            show (fis zs).take n = fis xs
            rw [hFz, hF, ← hfl, List.take_left]
          obtain ⟨z, hz⟩ : ∃ z, zs[n]? = some z := ⟨_, List.getElem?_eq_getElem (by omega)⟩
          have hzX : z.f = X.f := by
            have h1 := fis_at hz
            rw [hFz, hF, List.getElem?_append_right (by omega), hfl, Nat.sub_self] at h1
            exact (Option.some.inj h1).symm
          have hsl := hoGc.slc
          obtain ⟨aG', cG', e1, hNc, _, hA⟩ := hsl.form
          rw [hzl] at e1 hNc
          injection e1 with e1 _ e2
          subst e1 e2
          obtain ⟨gG, oG, rfl, hatG⟩ := hA (by intro e0; rw [e0] at hz; cases hz)
          have HZW := Lib.hid (fun (W : World) (hW : Below wc.heap.size wc W) => hsl.on hW)
          have HZT := Lib.hid (fun (W : World) (hW : Below wc.heap.size wc W) => (by have := TreeOk_impl zs _ W (HL.out.on (wcB.trans (hW.mono wcB.size))) (hsl.on hW) hzf (by omega); rw [hFz, hok] at this; exact this : Calls Tryz.prog 18 #[.slice (some ⟨gG, oG, none⟩) N cG] W (Ans (.bool true) W)))
          have HZL := Lib.hid (fun (W : World) (hW : Below wc.heap.size wc W) => fi_load (hatG.on hW) hz)
          have HZ2 := Lib.hid (fun (W : World) (hW : Below wc.heap.size wc W) => likeTree_same (zs.take n) xs _ (.slice a1 n cap1) W (fiSlc_to (hsl.on hW) hzl (j := n) (by omega) (by omega)) (HTS.out W (h2c.trans (hW.mono h2c.size))) hz20 (by rw [hz20]; exact HBS.out) (by rw [List.length_take]; omega))
          have HZF := Lib.hid (fun (W : World) (hW : Below wc.heap.size wc W) => (show Calls Tryz.prog 20 #[fiV z, fiV X] W (Ans (.bool true) W) from by
            have h1 := (hsl.on hW).2 z (List.mem_of_getElem? hz)
            have h2 := HXH.out W (h2c.trans (hW.mono h2c.size))
            have h3 := HBX.out
            obtain ⟨f, u, nn⟩ := z
            obtain ⟨f', u', nn'⟩ := X
            dsimp only at hzX h3
            subst hzX
            exact likeFigure_same f u nn u' nn' W h1 h2 h3.1 h3.2))
          have HLXc := Lib.hid (fun (W : World) (hW : Below wc.heap.size wc W) => HLX.out W (h2c.trans (hW.mono h2c.size)))
          have hcut := fun (w' : World) => fi_toAt gG oG N cG n (by omega) (by omega) w'
          have hnN : (n : Int) < (N : Int) := by omega
          have hn0 : (0 : Int) ≤ (n : Int) := by omega
          have hNc' : (N : Int) ≤ (cG : Int) := by omega
          have HN1 := Lib.hid hN1
          clear hFz hfl hzl hN1 hzx hzf hz20 hz hzX hsl hA hatG hok hF hoGc
          go_upto_region 20 with fail
          refine RI.region_det (by kernel_rfl) [.slice (some ⟨gG, oG, none⟩) N cG, .bool true, .bool true, .slice (some ⟨gG, oG, none⟩) N cG, .slice a1 n cap1, .int .i64 (n : Int), .slice (some ⟨gG, oG, none⟩) n cG, .slice a1 n cap1, .bool true, .bool true, .bool true, .slice (some ⟨gG, oG, none⟩) N cG, .slice a1 n cap1, .int .i64 (n : Int), .pointer (some ⟨gG, oG + n * 5, none⟩), fiV z, fiV X, .bool true, .bool true, .bool true] (fun W => Below wc.heap.size wc W) (none :: none :: some 19 :: none :: none :: none :: none :: none :: none :: none :: none :: none :: none :: none :: none :: none :: none :: none :: none :: none :: none :: none :: none :: none :: none :: none :: none :: none :: none :: none :: none :: none :: none :: none :: none :: none :: none :: none :: none :: none :: none :: none :: none :: none :: none :: none :: none :: none :: none :: none :: none :: none :: none :: none :: none :: none :: none :: none :: none :: none :: none :: none :: none :: none :: none :: none :: none :: none :: none :: none :: none :: none :: none :: none :: none :: none :: none :: none :: none :: none :: none :: none :: none :: none :: none :: none :: none :: none :: none :: none :: none :: none :: none :: none :: none :: none :: none :: none :: none :: none :: none :: none :: none :: none :: none :: none :: none :: none :: none :: none :: none :: none :: none :: none :: none :: none :: none :: none :: none :: none :: none :: none :: none :: none :: none :: none :: none :: none :: some 0 :: some 1 :: some 2 :: some 3 :: some 4 :: some 5 :: some 6 :: some 7 :: some 8 :: some 9 :: some 10 :: some 11 :: some 12 :: some 13 :: some 14 :: some 15 :: some 16 :: some 17 :: some 18 :: []) (by kernel_rfl) (by kernel_rfl) (⟨rfl, rfl, rfl, Nat.le_refl _, fun _ _ => rfl⟩) ?_ ?_
          · intro i hi A W hB hA
            have hi2 : i < 20 := hi
            have hcase : i = 0 ∨ i = 1 ∨ i = 2 ∨ i = 3 ∨ i = 4 ∨ i = 5 ∨ i = 6 ∨ i = 7 ∨ i = 8 ∨ i = 9 ∨ i = 10 ∨ i = 11 ∨ i = 12 ∨ i = 13 ∨ i = 14 ∨ i = 15 ∨ i = 16 ∨ i = 17 ∨ i = 18 ∨ i = 19 := by omega
            clear hi hi2
            rcases hcase with rfl | rfl | rfl | rfl | rfl | rfl | rfl | rfl | rfl | rfl | rfl | rfl | rfl | rfl | rfl | rfl | rfl | rfl | rfl | rfl
            · have s5 : A.tmps[5]?.getD undef = .slice (some ⟨gG, oG, none⟩) N cG := (hA.st 5 (by kernel_rfl)).trans rfl
              exact wpOp_of rfl rfl (wp_value (v := .slice (some ⟨gG, oG, none⟩) N cG) (W' := W) (by simp [execOp, Act.eval, s5, go_sem]) ⟨rfl, hB⟩)
            · have s128 : A.tmps[128]?.getD undef = .slice (some ⟨gG, oG, none⟩) N cG := hA.on 0 128 (by kernel_rfl) (by kernel_rfl)
              refine wpOp_of rfl rfl (wp_enter (f := 18) (args := #[.slice (some ⟨gG, oG, none⟩) N cG]) (by simp [execOp, Act.eval, s128, go_sem]) ?_)
              refine (HZT.out W hB).mono ?_
              rintro e w' ⟨rfl, hb'⟩
              exact ⟨_, rfl, rfl, hB.trans (hb'.mono hB.size)⟩
            · have s129 : A.tmps[129]?.getD undef = .bool true := hA.on 1 129 (by kernel_rfl) (by kernel_rfl)
              exact wpOp_of rfl rfl (wp_value (v := .bool true) (W' := W) (by simp [execOp, Act.eval, s129, go_sem]) ⟨rfl, hB⟩)
            · have hg : A.tmps[130]?.getD undef = .bool true := hA.on 2 130 (by kernel_rfl) (by kernel_rfl)
              have s5 : A.tmps[5]?.getD undef = .slice (some ⟨gG, oG, none⟩) N cG := (hA.st 5 (by kernel_rfl)).trans rfl
              exact wpOp_want rfl rfl (by kernel_rfl) hg (wp_value (v := .slice (some ⟨gG, oG, none⟩) N cG) (W' := W) (by simp [execOp, Act.eval, s5, go_sem]) ⟨rfl, hB⟩)
            · have hg : A.tmps[130]?.getD undef = .bool true := hA.on 2 130 (by kernel_rfl) (by kernel_rfl)
              have s3 : A.tmps[3]?.getD undef = .slice a1 n cap1 := (hA.st 3 (by kernel_rfl)).trans rfl
              exact wpOp_want rfl rfl (by kernel_rfl) hg (wp_value (v := .slice a1 n cap1) (W' := W) (by simp [execOp, Act.eval, s3, go_sem]) ⟨rfl, hB⟩)
            · have hg : A.tmps[130]?.getD undef = .bool true := hA.on 2 130 (by kernel_rfl) (by kernel_rfl)
              have s132 : A.tmps[132]?.getD undef = .slice a1 n cap1 := hA.on 4 132 (by kernel_rfl) (by kernel_rfl)
              exact wpOp_want rfl rfl (by kernel_rfl) hg (wp_value (v := .int .i64 (n : Int)) (W' := W) (by simp [execOp, Act.eval, s132, go_sem]) ⟨rfl, hB⟩)
            · have hg : A.tmps[130]?.getD undef = .bool true := hA.on 2 130 (by kernel_rfl) (by kernel_rfl)
              have s131 : A.tmps[131]?.getD undef = .slice (some ⟨gG, oG, none⟩) N cG := hA.on 3 131 (by kernel_rfl) (by kernel_rfl)
              have s133 : A.tmps[133]?.getD undef = .int .i64 (n : Int) := hA.on 5 133 (by kernel_rfl) (by kernel_rfl)
              exact wpOp_want rfl rfl (by kernel_rfl) hg (wp_value (v := .slice (some ⟨gG, oG, none⟩) n cG) (W' := W) (by simp [execOp, Act.eval, s131, s133, hcut]) ⟨rfl, hB⟩)
            · have hg : A.tmps[130]?.getD undef = .bool true := hA.on 2 130 (by kernel_rfl) (by kernel_rfl)
              have s3 : A.tmps[3]?.getD undef = .slice a1 n cap1 := (hA.st 3 (by kernel_rfl)).trans rfl
              exact wpOp_want rfl rfl (by kernel_rfl) hg (wp_value (v := .slice a1 n cap1) (W' := W) (by simp [execOp, Act.eval, s3, go_sem]) ⟨rfl, hB⟩)
            · have hg : A.tmps[130]?.getD undef = .bool true := hA.on 2 130 (by kernel_rfl) (by kernel_rfl)
              have s134 : A.tmps[134]?.getD undef = .slice (some ⟨gG, oG, none⟩) n cG := hA.on 6 134 (by kernel_rfl) (by kernel_rfl)
              have s135 : A.tmps[135]?.getD undef = .slice a1 n cap1 := hA.on 7 135 (by kernel_rfl) (by kernel_rfl)
              refine wpOp_want rfl rfl (by kernel_rfl) hg (wp_enter (f := 15) (args := #[.slice (some ⟨gG, oG, none⟩) n cG, .slice a1 n cap1]) (by simp [execOp, Act.eval, s134, s135, go_sem]) ?_)
              refine (HZ2.out W hB).mono ?_
              rintro e w' ⟨rfl, hb'⟩
              exact ⟨_, rfl, rfl, hB.trans (hb'.mono hB.size)⟩
            · have s130 : A.tmps[130]?.getD undef = .bool true := hA.on 2 130 (by kernel_rfl) (by kernel_rfl)
              have s136 : A.tmps[136]?.getD undef = .bool true := hA.on 8 136 (by kernel_rfl) (by kernel_rfl)
              exact wpOp_of rfl rfl (wp_value (v := .bool true) (W' := W) (by simp [execOp, Act.eval, s130, s136, go_sem]) ⟨rfl, hB⟩)
            · have s137 : A.tmps[137]?.getD undef = .bool true := hA.on 9 137 (by kernel_rfl) (by kernel_rfl)
              exact wpOp_of rfl rfl (wp_value (v := .bool true) (W' := W) (by simp [execOp, Act.eval, s137, go_sem]) ⟨rfl, hB⟩)
            · have hg : A.tmps[138]?.getD undef = .bool true := hA.on 10 138 (by kernel_rfl) (by kernel_rfl)
              have s5 : A.tmps[5]?.getD undef = .slice (some ⟨gG, oG, none⟩) N cG := (hA.st 5 (by kernel_rfl)).trans rfl
              exact wpOp_want rfl rfl (by kernel_rfl) hg (wp_value (v := .slice (some ⟨gG, oG, none⟩) N cG) (W' := W) (by simp [execOp, Act.eval, s5, go_sem]) ⟨rfl, hB⟩)
            · have hg : A.tmps[138]?.getD undef = .bool true := hA.on 10 138 (by kernel_rfl) (by kernel_rfl)
              have s3 : A.tmps[3]?.getD undef = .slice a1 n cap1 := (hA.st 3 (by kernel_rfl)).trans rfl
              exact wpOp_want rfl rfl (by kernel_rfl) hg (wp_value (v := .slice a1 n cap1) (W' := W) (by simp [execOp, Act.eval, s3, go_sem]) ⟨rfl, hB⟩)
            · have hg : A.tmps[138]?.getD undef = .bool true := hA.on 10 138 (by kernel_rfl) (by kernel_rfl)
              have s140 : A.tmps[140]?.getD undef = .slice a1 n cap1 := hA.on 12 140 (by kernel_rfl) (by kernel_rfl)
              exact wpOp_want rfl rfl (by kernel_rfl) hg (wp_value (v := .int .i64 (n : Int)) (W' := W) (by simp [execOp, Act.eval, s140, go_sem]) ⟨rfl, hB⟩)
            · have hg : A.tmps[138]?.getD undef = .bool true := hA.on 10 138 (by kernel_rfl) (by kernel_rfl)
              have s139 : A.tmps[139]?.getD undef = .slice (some ⟨gG, oG, none⟩) N cG := hA.on 11 139 (by kernel_rfl) (by kernel_rfl)
              have s141 : A.tmps[141]?.getD undef = .int .i64 (n : Int) := hA.on 13 141 (by kernel_rfl) (by kernel_rfl)
              exact wpOp_want rfl rfl (by kernel_rfl) hg (wp_value (v := .pointer (some ⟨gG, oG + n * 5, none⟩)) (W' := W) (by simp [execOp, Act.eval, s139, s141, go_sem, hnN, hn0]) ⟨rfl, hB⟩)
            · have hg : A.tmps[138]?.getD undef = .bool true := hA.on 10 138 (by kernel_rfl) (by kernel_rfl)
              have s142 : A.tmps[142]?.getD undef = .pointer (some ⟨gG, oG + n * 5, none⟩) := hA.on 14 142 (by kernel_rfl) (by kernel_rfl)
              exact wpOp_want rfl rfl (by kernel_rfl) hg (wp_value (v := fiV z) (W' := W) (by exact exec_load rfl (by simpa [Act.eval] using s142) (HZL.out W hB)) ⟨rfl, hB⟩)
            · have hg : A.tmps[138]?.getD undef = .bool true := hA.on 10 138 (by kernel_rfl) (by kernel_rfl)
              have s4 : A.tmps[4]?.getD undef = .pointer (some ⟨b4, 0, none⟩) := (hA.st 4 (by kernel_rfl)).trans rfl
              exact wpOp_want rfl rfl (by kernel_rfl) hg (wp_value (v := fiV X) (W' := W) (by exact exec_load rfl (by simpa [Act.eval] using s4) (HLXc.out W hB)) ⟨rfl, hB⟩)
            · have hg : A.tmps[138]?.getD undef = .bool true := hA.on 10 138 (by kernel_rfl) (by kernel_rfl)
              have s143 : A.tmps[143]?.getD undef = fiV z := hA.on 15 143 (by kernel_rfl) (by kernel_rfl)
              have s144 : A.tmps[144]?.getD undef = fiV X := hA.on 16 144 (by kernel_rfl) (by kernel_rfl)
              refine wpOp_want rfl rfl (by kernel_rfl) hg (wp_enter (f := 20) (args := #[fiV z, fiV X]) (by simp [execOp, Act.eval, s143, s144, go_sem]) ?_)
              refine (HZF.out W hB).mono ?_
              rintro e w' ⟨rfl, hb'⟩
              exact ⟨_, rfl, rfl, hB.trans (hb'.mono hB.size)⟩
            · have s138 : A.tmps[138]?.getD undef = .bool true := hA.on 10 138 (by kernel_rfl) (by kernel_rfl)
              have s145 : A.tmps[145]?.getD undef = .bool true := hA.on 17 145 (by kernel_rfl) (by kernel_rfl)
              exact wpOp_of rfl rfl (wp_value (v := .bool true) (W' := W) (by simp [execOp, Act.eval, s138, s145, go_sem]) ⟨rfl, hB⟩)
            · have s146 : A.tmps[146]?.getD undef = .bool true := hA.on 18 146 (by kernel_rfl) (by kernel_rfl)
              exact wpOp_of rfl rfl (wp_value (v := .bool true) (W' := W) (by simp [execOp, Act.eval, s146, go_sem]) ⟨rfl, hB⟩)
          intro wR hR
          simp only [RI.mergeL, List.getElem?_cons_zero, List.getElem?_cons_succ, Option.getD_some]
          go_wp2_with fail
          go_ret
          exact ⟨rfl, wcB.trans (hR.mono wcB.size)⟩

end Go.Proofs.YtgaggpnlimchkaaGreatDoor.B11
