/- Chapter 10: the laws' marks on parts, and that they are held. -/
import Derived.Test.YtliihnkonakacaaGreatDoorMarkP10
namespace Go.Proofs.YtliihnkonakacaaGreatDoor.B10
open Go.Proofs.YtliihnkonakacaaGreatDoor.P1 Go.Proofs.YtliihnkonakacaaGreatDoor.B1 Go.Proofs.YtliihnkonakacaaGreatDoor.B2 Go.Proofs.YtliihnkonakacaaGreatDoor.T1 Go.Proofs.YtliihnkonakacaaGreatDoor.BT Go.Proofs.YtliihnkonakacaaGreatDoor.P5 Go.Proofs.YtliihnkonakacaaGreatDoor.P6 Go.Proofs.YtliihnkonakacaaGreatDoor.P9 Go.Proofs.YtliihnkonakacaaGreatDoor.B5 Go.Proofs.YtliihnkonakacaaGreatDoor.B6 Go.Proofs.YtliihnkonakacaaGreatDoor.D1 Go.Proofs.YtliihnkonakacaaGreatDoor.W8 Go.Proofs.YtliihnkonakacaaGreatDoor.RC Go.Proofs.YtliihnkonakacaaGreatDoor.RI Go.Proofs.YtliihnkonakacaaGreatDoor.P10
open Go.ChangeShapes Go.WideShapes Go.ChangeAt Go.RowKit
set_option linter.unusedVariables false

/-- Every third mark. -/
def third (k : Nat) : Bool := ((k : Int) % 3 == 0)

def markPv (k : Nat) (x : Pv) : Pv := ⟨⟨markT k, markT (k + 1), marksS (k + 2) x.p.bs.length, third (k + 2 + x.p.bs.length)⟩, x.u⟩
def markPs : Nat → List Pv → List Pv
  | _, [] => []
  | k, x :: r => markPv k x :: markPs (k + 3 + x.p.bs.length) r
def endK : Nat → List Pv → Nat
  | k, [] => k
  | k, x :: r => endK (k + 3 + x.p.bs.length) r

theorem markPs_len : ∀ (k : Nat) (xs : List Pv), (markPs k xs).length = xs.length
  | _, [] => rfl
  | k, x :: r => by simp [markPs, markPs_len]

theorem markPs_snoc : ∀ (k : Nat) (xs : List Pv) (y : Pv), markPs k (xs ++ [y]) = markPs k xs ++ [markPv (endK k xs) y]
  | k, [], y => rfl
  | k, x :: r, y => by
    show markPv k x :: markPs _ (r ++ [y]) = _
    rw [markPs_snoc]
    rfl

theorem endK_snoc : ∀ (k : Nat) (xs : List Pv) (y : Pv), endK k (xs ++ [y]) = endK k xs + 3 + y.p.bs.length
  | k, [], y => rfl
  | k, x :: r, y => by
    show endK _ (r ++ [y]) = endK _ r + 3 + _
    rw [endK_snoc]

theorem endK_le {M : Nat} : ∀ (k : Nat) (xs : List Pv), (∀ x ∈ xs, x.p.bs.length ≤ M) → endK k xs ≤ k + xs.length * (3 + M) ∧ k ≤ endK k xs
  | k, [], _ => by simp [endK]
  | k, x :: r, h => by
    have ih := endK_le (M := M) (k + 3 + x.p.bs.length) r (fun y hy => h y (by simp [hy]))
    have hx := h x (by simp)
    show endK (k + 3 + x.p.bs.length) r ≤ _ ∧ k ≤ endK (k + 3 + x.p.bs.length) r
    rw [List.length_cons, Nat.add_mul, Nat.one_mul]
    omega

theorem take_snoc {xs : List Pv} {i : Nat} {x : Pv} (h : xs[i]? = some x) : xs.take (i + 1) = xs.take i ++ [x] := by
  rw [List.take_add_one, h]; rfl

/-- Parts in a block of their own, with texts of their own; all apart. -/
structure MP (g : Nat) (zs : List Pv) (W : World) : Prop where
  blk : LBlk W g (ptRs zs).flatten
  tb : ∀ z ∈ zs, TB W z.u z.p.bs
  ap : zs.Pairwise fun x y => x.u.ownBlock = none ∨ x.u.ownBlock ≠ y.u.ownBlock
  ng : ∀ z ∈ zs, z.u.ownBlock ≠ some g

theorem MP.on {g : Nat} {zs : List Pv} {W W' : World} (h : MP g zs W) (hb : Below W.heap.size W W') : MP g zs W' := ⟨h.blk.below hb, fun z hz => (h.tb z hz).on hb, h.ap, h.ng⟩

theorem ptRs_app (xs ys : List Pv) : (ptRs (xs ++ ys)).flatten = (ptRs xs).flatten ++ (ptRs ys).flatten := by simp [ptRs]
theorem ptRs_cons (x : Pv) (ys : List Pv) : (ptRs (x :: ys)).flatten = ptL x ++ (ptRs ys).flatten := by simp [ptRs]
theorem ptRs_flen (xs : List Pv) : (ptRs xs).flatten.length = xs.length * 4 := by
  rw [flat_len (ptRs_four xs), ptRs_len]

theorem mp_at {pre post : List Pv} {y : Pv} {i c : Nat} {v : Value} (hi : pre.length = i) (hv : (ptL y)[c]? = some v) : ((ptRs (pre ++ y :: post)).flatten)[i * 4 + c]? = some v := by
  have hc : c < 4 := (List.getElem?_eq_some_iff.1 hv).1
  rw [ptRs_app, ptRs_cons, List.getElem?_append_right (by rw [ptRs_flen, hi]; omega), ptRs_flen, hi, show i * 4 + c - i * 4 = c by omega, List.getElem?_append_left hc]
  exact hv

theorem mp_set {pre post : List Pv} {y y' : Pv} {i c : Nat} {v : Value} (hi : pre.length = i) (hc : c < 4) (e : (ptL y).set c v = ptL y') : ((ptRs (pre ++ y :: post)).flatten).set (i * 4 + c) v = (ptRs (pre ++ y' :: post)).flatten := by
  rw [ptRs_app, ptRs_cons, ptRs_app, ptRs_cons, List.set_append_right _ _ (by rw [ptRs_flen, hi]; omega), ptRs_flen, hi, show i * 4 + c - i * 4 = c by omega, List.set_append_left _ _ hc, e]

theorem MP.cell {g : Nat} {pre post : List Pv} {y : Pv} {W : World} (h : MP g (pre ++ y :: post) W) {i c : Nat} {v : Value} (hi : pre.length = i) (hv : (ptL y)[c]? = some v) : W.cell? ⟨g, i * 4 + c, none⟩ = some v ∧ W.frozen? ⟨g, i * 4 + c, none⟩ = false :=
  h.blk.2 _ _ (mp_at hi hv)

theorem pair_swap {pre post : List Pv} {y y' : Pv} (hu : y'.u = y.u) (h : (pre ++ y :: post).Pairwise fun x y => x.u.ownBlock = none ∨ x.u.ownBlock ≠ y.u.ownBlock) : (pre ++ y' :: post).Pairwise fun x y => x.u.ownBlock = none ∨ x.u.ownBlock ≠ y.u.ownBlock := by
  rw [List.pairwise_append, List.pairwise_cons] at h ⊢
  obtain ⟨h1, ⟨h2, h3⟩, h4⟩ := h
  refine ⟨h1, ⟨fun z hz => by rw [hu]; exact h2 z hz, h3⟩, fun a ha b hb => ?_⟩
  rcases List.mem_cons.1 hb with rfl | hb
  · rw [hu]; exact h4 a ha y (by simp)
  · exact h4 a ha b (by simp [hb])

theorem MP.put {g : Nat} {pre post : List Pv} {y y' : Pv} {W : World} (h : MP g (pre ++ y :: post) W) {i c : Nat} {v : Value} (hi : pre.length = i) (hc : c < 4) (e : (ptL y).set c v = ptL y') (hu : y'.u = y.u) (hb : y'.p.bs = y.p.bs) : MP g (pre ++ y' :: post) (W.setCell ⟨g, i * 4 + c, none⟩ v) := by
  have hgr : W.grownBy (W.setCell ⟨g, i * 4 + c, none⟩ v) (some g) := gr_of_only ((Only.refl g W).setCell (p := ⟨g, i * 4 + c, none⟩) rfl v)
  have hmem : ∀ z ∈ pre ++ y' :: post, z = y' ∨ z ∈ pre ++ y :: post := fun z hz => by
    rcases List.mem_append.1 hz with hz | hz
    · exact Or.inr (List.mem_append_left _ hz)
    · rcases List.mem_cons.1 hz with rfl | hz
      · exact Or.inl rfl
      · exact Or.inr (List.mem_append_right _ (List.mem_cons_of_mem _ hz))
  have hy : y ∈ pre ++ y :: post := by simp
  refine ⟨?_, fun z hz => ?_, pair_swap hu h.ap, fun z hz => ?_⟩
  · have := h.blk.set (i * 4 + c) v (by rw [ptRs_flen, List.length_append, List.length_cons, hi]; omega)
    rwa [mp_set hi hc e] at this
  · rcases hmem z hz with rfl | hz
    · rw [hu, hb]
      exact (h.tb y hy).grown hgr (Or.inr (h.ng y hy))
    · exact (h.tb z hz).grown hgr (Or.inr (h.ng z hz))
  · rcases hmem z hz with rfl | hz
    · rw [hu]; exact h.ng y hy
    · exact h.ng z hz

/-- A part's texts are marked. -/
theorem MP.texts {g : Nat} {pre post : List Pv} {y y' : Pv} {W W' : World} (h : MP g (pre ++ y :: post) W) (hu : y'.u = y.u) (hl : ptL y' = ptL y) (ht : TB W' y.u y'.p.bs) (hg : W.grownBy W' y.u.ownBlock) : MP g (pre ++ y' :: post) W' := by
  have hy : y ∈ pre ++ y :: post := by simp
  have hap := h.ap
  rw [List.pairwise_append, List.pairwise_cons] at hap
  obtain ⟨_, ⟨h2, _⟩, h4⟩ := hap
  have hoth : ∀ z, z ∈ pre ∨ z ∈ post → TB W' z.u z.p.bs := fun z hz => by
    rcases hz with hz | hz
    · exact (h.tb z (by simp [hz])).grown hg (h4 z hz y (by simp))
    · refine (h.tb z (by simp [hz])).grown hg ?_
      rcases h2 z hz with e | e
      · by_cases hn : z.u.ownBlock = none
        · exact Or.inl hn
        · exact Or.inr (fun e' => hn (by rw [e', e]))
      · exact Or.inr (fun e' => e e'.symm)
  refine ⟨?_, fun z hz => ?_, pair_swap hu h.ap, fun z hz => ?_⟩
  · have e : (ptRs (pre ++ y' :: post)).flatten = (ptRs (pre ++ y :: post)).flatten := by
      rw [ptRs_app, ptRs_cons, ptRs_app, ptRs_cons, hl]
    rw [e]
    exact LBlk.grown h.blk hg (fun e => h.ng y hy e.symm)
  · rcases List.mem_append.1 hz with hz | hz
    · exact hoth z (Or.inl hz)
    · rcases List.mem_cons.1 hz with rfl | hz
      · rw [hu]; exact ht
      · exact hoth z (Or.inr hz)
  · rcases List.mem_append.1 hz with hz | hz
    · exact h.ng z (by simp [hz])
    · rcases List.mem_cons.1 hz with rfl | hz
      · rw [hu]; exact h.ng y hy
      · exact h.ng z (by simp [hz])

theorem MP.slc {g cap : Nat} {zs : List Pv} {W : World} (h : MP g zs W) (h1 : zs.length ≤ cap) (h2 : cap ≤ 9223372036854775807) : PtSlc W (.slice (some ⟨g, 0, none⟩) zs.length cap) zs :=
  ⟨⟨_, cap, by rw [ptRs_len], by rw [ptRs_len]; exact h1, h2, fun _ => ⟨g, 0, rfl, at_of_blk h.blk (ptRs_four zs)⟩⟩, fun z hz => (h.tb z hz).slc⟩

theorem OwnQ.mp {B g cap : Nat} {xs : List Pv} {W : World} (h : OwnQ B (.slice (some ⟨g, 0, none⟩) xs.length cap) xs W) : MP g xs W ∧ xs.length ≤ cap ∧ cap ≤ 9223372036854775807 := by
  refine ⟨⟨own_lblk h.own, fun z hz => Words.tb (h.hs z hz), h.ap, fun z hz => ?_⟩, ?_⟩
  · rcases rows_apart (by decide) (h.hs z hz) h.own with e | e
    · rw [e]; simp [Value.ownBlock]
    · exact e
  · rcases h.own.2 with ⟨e, _⟩ | ⟨g', cap', cur, e, _, _, h1, h2, _⟩
    · cases e
    · injection e with e1 e2 e3
      subst e3
      exact ⟨h1, by unfold maxLen at h2; omega⟩

theorem third_is (k : Nat) : ((k : Int) % 3 == 0) = third k := rfl

theorem markPs_at {k i : Nat} {xs : List Pv} {x : Pv} (h : xs[i]? = some x) : (markPs k xs)[i]? = some (markPv (endK k (xs.take i)) x) := by
  obtain ⟨hi, e⟩ := List.getElem?_eq_some_iff.1 h
  have e1 : xs = (xs.take i ++ [x]) ++ xs.drop (i + 1) := by
    rw [List.append_assoc, ← e]
    simp
  have e2 : ∀ (k : Nat) (ls bs : List Pv), markPs k (ls ++ bs) = markPs k ls ++ markPs (endK k ls) bs := fun k ls => by
    induction ls generalizing k with
    | nil => intro bs; rfl
    | cons a r ih => intro bs; show markPv k a :: markPs _ (r ++ bs) = _; rw [ih]; rfl
  have hl : (markPs k (xs.take i)).length = i := by rw [markPs_len, List.length_take]; omega
  rw [show markPs k xs = markPs k ((xs.take i ++ [x]) ++ xs.drop (i + 1)) by rw [← e1], e2, markPs_snoc, List.append_assoc, List.getElem?_append_right (by rw [hl]; exact Nat.le_refl _), hl, Nat.sub_self]
  rfl

set_option maxRecDepth 20000 in
set_option maxHeartbeats 8000000 in
theorem markPartS_rows (xs : List Pv) (k n g cap B : Nat) (w : World) (hn : xs.length = n) (h : MP g xs w) (hnc : n ≤ cap) (hs : n ≤ 1000) (hb : ∀ x ∈ xs, x.p.bs.length ≤ 1000) (hk1 : 1 ≤ k) (hk2 : k ≤ 1000) (hBg : B ≤ g) (hBu : ∀ x ∈ xs, ∀ q, x.u.ownBlock = some q → B ≤ q) (hBw : B ≤ w.heap.size) :
    Calls Tryz.prog 32 #[.slice (some ⟨g, 0, none⟩) n cap, .int .i64 (k : Int)] w fun e w' => e = .returned (.int .i64 ((endK k xs : Nat) : Int)) ∧ MP g (markPs k xs) w' ∧ Below B w w' := by
  have HN := Lib.hid hn
  have hnc' : (n : Int) ≤ (cap : Int) := by omega
  have hs' : (n : Int) ≤ 1000 := by omega
  have H0 := Lib.hid h
  have HB := Lib.hid hb
  have HU := Lib.hid hBu
  have HG := Lib.hid hBg
  have HK1 := Lib.hid hk1
  have HK2 := Lib.hid hk2
  clear h hn hb hBu hBg hk1 hk2
  go_enter Tryz.func32, Tryz.ntmps32
  go_wp2_with fail
  go_loopg [1, 5] n (fun kx s1 s5 wr => ∃ (i m : Nat), s1 = .int .i64 (m : Int) ∧ s5 = .int .i64 (i : Int) ∧ kx + i = n ∧ Hid (endK k (xs.take i) = m) ∧ Hid (MP g (markPs k (xs.take i) ++ xs.drop i) wr) ∧ Below B w wr)
  case atStart => exact ⟨0, k, rfl, rfl, by omega, Lib.hid rfl, H0, Below.refl _ _⟩
  case round =>
    obtain ⟨i, m, rfl, rfl, hki, HE, HMP, hBW⟩ := hrel
    have hmb : 1 ≤ m ∧ m ≤ 1004000 := by
      have h1 := endK_le (M := 1000) k (xs.take i) (fun x hx => HB.out x (List.mem_of_mem_take hx))
      rw [HE.out] at h1
      have h2 : (xs.take i).length ≤ 1000 := by rw [List.length_take]; have := HN.out; omega
      have h3 := HK1.out
      have h4 := HK2.out
      have h5 : (xs.take i).length * (3 + 1000) ≤ 1000 * 1003 := Nat.mul_le_mul_right 1003 h2
      omega
    obtain ⟨hm1, hm2⟩ := hmb
    by_cases hlt : i < n
    · have hlt' : (i : Int) < (n : Int) := by omega
      have i0' : (0 : Int) ≤ (i : Int) := by omega
      obtain ⟨x, hx⟩ : ∃ x, xs[i]? = some x := ⟨_, List.getElem?_eq_getElem (by rw [HN.out]; exact hlt)⟩
      have hxm := List.mem_of_getElem? hx
      have hdr : xs.drop i = x :: xs.drop (i + 1) := by
        obtain ⟨hi, e⟩ := List.getElem?_eq_some_iff.1 hx
        rw [List.drop_eq_getElem_cons hi, e]
      have hM := HMP.out
      rw [hdr] at hM
      have hpl : (markPs k (xs.take i)).length = i := by rw [markPs_len, List.length_take]; have := HN.out; omega
      have HPL := Lib.hid hpl
      have hnb := HB.out x hxm
      have HUX := Lib.hid (HU.out x hxm)
      have HFIN := Lib.hid (show markPs k (xs.take i) ++ markPv m x :: xs.drop (i + 1) = markPs k (xs.take (i + 1)) ++ xs.drop (i + 1) by
        rw [take_snoc hx, markPs_snoc, HE.out, List.append_assoc]; rfl)
      have HEN := Lib.hid (show endK k (xs.take (i + 1)) = m + 3 + x.p.bs.length by rw [take_snoc hx, endK_snoc, HE.out])
      obtain ⟨⟨tg, idp, bs, nr⟩, u⟩ := x
      dsimp only at hnb HUX HEN
      obtain ⟨nb, enb⟩ : ∃ nb, bs.length = nb := ⟨_, rfl⟩
      have HNB := Lib.hid enb
      rw [enb] at hnb HEN
      have HM0 := Lib.hid (fun w' => markText_laws m w' (by omega) (by omega))
      have HM1 := Lib.hid (fun w' => markText_laws (m + 1) w' (by omega) (by omega))
      have HMV := Lib.hid (show markPv m ⟨⟨tg, idp, bs, nr⟩, u⟩ = ⟨⟨markT m, markT (m + 1), marksS (m + 2) nb, third (m + 2 + nb)⟩, u⟩ by unfold markPv; dsimp only; rw [enb])
      obtain ⟨s0, es0⟩ : ∃ s, markT m = s := ⟨_, rfl⟩
      obtain ⟨s1, es1⟩ : ∃ s, markT (m + 1) = s := ⟨_, rfl⟩
      rw [es0] at HM0 HMV
      rw [es1] at HM1 HMV
      obtain ⟨m1, em1⟩ : ∃ m1, m + 1 = m1 := ⟨_, rfl⟩
      obtain ⟨m2, em2⟩ : ∃ m2, m + 2 = m2 := ⟨_, rfl⟩
      obtain ⟨m3, em3⟩ : ∃ m3, m2 + nb = m3 := ⟨_, rfl⟩
      rw [em1] at HM1
      rw [em2] at HMV
      rw [em3] at HMV
      have HM3 := Lib.hid (show m3 + 1 = m + 3 + nb by omega)
      have hm3b : m3 ≤ 1006000 := by omega
      have hm1b : m1 ≤ 1004001 := by omega
      have hm2b : m2 ≤ 1004002 := by omega
      have w1 : IntKind.i64.wrap ((m : Int) + 1) = (m1 : Int) := by rw [IntKind.wrap_i64]; omega
      have w2' : IntKind.i64.wrap ((m1 : Int) + 1) = (m2 : Int) := by rw [IntKind.wrap_i64]; omega
      have ht3 := third_is m3
      obtain ⟨t3, et3⟩ : ∃ t, third m3 = t := ⟨_, rfl⟩
      rw [et3] at HMV ht3
      have HMS := Lib.hid (fun (w' : World) (ht : TB w' u bs) => (by have := markStringS_laws bs u m2 w' ht (by omega) (by omega) (by omega); rw [enb, em3] at this; exact this : Calls Tryz.prog 70 #[u, .int .i64 (m2 : Int)] w' fun e w2 => e = .returned (.int .i64 (m3 : Int)) ∧ TB w2 u (marksS m2 nb) ∧ w'.grownBy w2 u.ownBlock))
      have HX0 := Lib.hid hM
      clear hM hdr hx hxm es0 es1 em1 em2 em3 et3 enb hpl
      go_wp2_with fail
      refine (HM0.out _).mono ?_
      rintro e w3 ⟨rfl, g3⟩
      have hM3 := HX0.out.on g3
      have hB3 := hBW.trans (g3.mono (Nat.le_trans hBw hBW.size))
      obtain ⟨a0, z0⟩ := hM3.cell (c := 0) HPL.out rfl
      have HX1 := Lib.hid (hM3.put (y' := ⟨⟨s0, idp, bs, nr⟩, u⟩) (c := 0) (v := .string ⟨s0.toArray⟩) HPL.out (by decide) rfl rfl rfl)
      have hB4 := hB3.trans ((only_set w3 g (i * 4 + 0) (.string ⟨s0.toArray⟩)).below (B := B) HG.out (Nat.le_trans hBw hB3.size))
      rw [Nat.add_zero] at a0 z0 HX1 hB4
      clear hM3 g3 hB3 hBW
      go_wp2_with fail
      refine (HM1.out _).mono ?_
      rintro e w5 ⟨rfl, g5⟩
      have hM5 := HX1.out.on g5
      have hB5 := hB4.trans (g5.mono (Nat.le_trans hBw hB4.size))
      obtain ⟨a1, z1⟩ := hM5.cell (c := 1) HPL.out rfl
      have HX2 := Lib.hid (hM5.put (y' := ⟨⟨s0, s1, bs, nr⟩, u⟩) (c := 1) (v := .string ⟨s1.toArray⟩) HPL.out (by decide) rfl rfl rfl)
      have hB6 := hB5.trans ((only_set w5 g (i * 4 + 1) (.string ⟨s1.toArray⟩)).below (B := B) HG.out (Nat.le_trans hBw hB5.size))
      obtain ⟨a2, z2⟩ := HX2.out.cell (c := 2) HPL.out rfl
      have HTB := Lib.hid (HMS.out _ (HX2.out.tb ⟨⟨s0, s1, bs, nr⟩, u⟩ (by simp)))
      clear hM5 g5 hB4 hB5 a0 z0
      go_wp2_with fail
      refine HTB.out.mono ?_
      rintro e w7 ⟨rfl, ht7, hg7⟩
      have HX3 := Lib.hid (HX2.out.texts (y' := ⟨⟨s0, s1, marksS m2 nb, nr⟩, u⟩) rfl rfl ht7 hg7)
      have hB7 := hB6.trans ((Below.refl B _).grown hg7 (Nat.le_trans hBw hB6.size) (fun q e => HUX.out q e))
      obtain ⟨a3, z3⟩ := HX3.out.cell (c := 3) HPL.out rfl
      have HX4 := Lib.hid (HX3.out.put (y' := ⟨⟨s0, s1, marksS m2 nb, t3⟩, u⟩) (c := 3) (v := .bool t3) HPL.out (by decide) rfl rfl rfl)
      have hB8 := hB7.trans ((only_set w7 g (i * 4 + 3) (.bool t3)).below (B := B) HG.out (Nat.le_trans hBw hB7.size))
      clear ht7 hg7 hB6 hB7 a1 z1 a2 z2
      go_wp2_with fail
      go_roundg (n - (i + 1))
      case measure => omega
      case rel => exact ⟨i + 1, m3 + 1, by go_num, by go_num, by omega, Lib.hid (by rw [HEN.out, HM3.out]), Lib.hid (by rw [← HFIN.out, HMV.out]; exact HX4.out), hB8⟩
    · have hlt' : ¬ (i : Int) < (n : Int) := by omega
      have HZ := Lib.hid (show endK k xs = m by
        have := HE.out
        rwa [List.take_of_length_le (by rw [HN.out]; omega)] at this)
      have HY := Lib.hid (show MP g (markPs k xs) wr by
        have := HMP.out
        rwa [List.take_of_length_le (by rw [HN.out]; omega), List.drop_of_length_le (by rw [HN.out]; omega), List.append_nil] at this)
      go_wp2_with fail
      go_ret
      exact ⟨by rw [HZ.out]; rfl, HY.out, hBW⟩

set_option maxRecDepth 20000 in
set_option maxHeartbeats 8000000 in
theorem heldPartS_laws (xs : List Pv) (k n : Nat) (v : Value) (w : World) (hn : xs.length = n) (h : PtSlc w v (markPs k xs)) (hs : n ≤ 1000) (hb : ∀ x ∈ xs, x.p.bs.length ≤ 1000) (hk1 : 1 ≤ k) (hk2 : k ≤ 1000) :
    Calls Tryz.prog 33 #[v, .int .i64 (k : Int)] w (Ans (.int .i64 ((endK k xs : Nat) : Int)) w) := by
  obtain ⟨a, cap, rfl, hnc, hcap, HA0⟩ := h.form
  rw [markPs_len, hn] at hnc ⊢
  have HN := Lib.hid hn
  have HH := Lib.hid h.2
  have HA := Lib.hid HA0
  have hnc' : (n : Int) ≤ (cap : Int) := by omega
  have hs' : (n : Int) ≤ 1000 := by omega
  have HB := Lib.hid hb
  have HK1 := Lib.hid hk1
  have HK2 := Lib.hid hk2
  clear h hn hb HA0 hk1 hk2
  go_enter Tryz.func33, Tryz.ntmps33
  go_wp2_with fail
  go_loopg [1, 5] n (fun kx s1 s5 wr => ∃ (i m : Nat), s1 = .int .i64 (m : Int) ∧ s5 = .int .i64 (i : Int) ∧ kx + i = n ∧ Hid (endK k (xs.take i) = m) ∧ Below w.heap.size w wr)
  case atStart => exact ⟨0, k, rfl, rfl, by omega, Lib.hid rfl, Below.refl _ _⟩
  case round =>
    obtain ⟨i, m, rfl, rfl, hki, HE, hB⟩ := hrel
    have hmb : 1 ≤ m ∧ m ≤ 1004000 := by
      have h1 := endK_le (M := 1000) k (xs.take i) (fun x hx => HB.out x (List.mem_of_mem_take hx))
      rw [HE.out] at h1
      have h2 : (xs.take i).length ≤ 1000 := by rw [List.length_take]; have := HN.out; omega
      have h3 := HK1.out
      have h4 := HK2.out
      have h5 : (xs.take i).length * (3 + 1000) ≤ 1000 * 1003 := Nat.mul_le_mul_right 1003 h2
      omega
    obtain ⟨hm1, hm2⟩ := hmb
    by_cases hlt : i < n
    · have hlt' : (i : Int) < (n : Int) := by omega
      have i0' : (0 : Int) ≤ (i : Int) := by omega
      obtain ⟨x, hx⟩ : ∃ x, xs[i]? = some x := ⟨_, List.getElem?_eq_getElem (by rw [HN.out]; exact hlt)⟩
      have hxm := List.mem_of_getElem? hx
      have hat0 := markPs_at (k := k) hx
      rw [HE.out] at hat0
      have hnb := HB.out x hxm
      have HEN := Lib.hid (show endK k (xs.take (i + 1)) = m + 3 + x.p.bs.length by rw [take_snoc hx, endK_snoc, HE.out])
      obtain ⟨g, off, rfl, hat⟩ := HA.out (by intro e0; rw [e0] at hat0; simp at hat0)
      have hheld := HH.out _ (List.mem_of_getElem? hat0)
      have hcells := fun (W : World) (hW : Below w.heap.size w W) => pt_cells (hat.on hW) hat0
      obtain ⟨nb, enb⟩ : ∃ nb, x.p.bs.length = nb := ⟨_, rfl⟩
      rw [enb] at hnb HEN
      unfold markPv at hheld hcells
      unfold Held at hheld
      dsimp only at hheld hcells
      rw [enb] at hheld hcells
      obtain ⟨u, eu⟩ : ∃ u, x.u = u := ⟨_, rfl⟩
      rw [eu] at hheld hcells
      have HM0 := Lib.hid (fun w' => markText_laws m w' (by omega) (by omega))
      have HM1 := Lib.hid (fun w' => markText_laws (m + 1) w' (by omega) (by omega))
      obtain ⟨s0, es0⟩ : ∃ s, markT m = s := ⟨_, rfl⟩
      obtain ⟨s1, es1⟩ : ∃ s, markT (m + 1) = s := ⟨_, rfl⟩
      rw [es0] at HM0 hcells
      rw [es1] at HM1 hcells
      obtain ⟨m1, em1⟩ : ∃ m1, m + 1 = m1 := ⟨_, rfl⟩
      obtain ⟨m2, em2⟩ : ∃ m2, m + 2 = m2 := ⟨_, rfl⟩
      obtain ⟨m3, em3⟩ : ∃ m3, m2 + nb = m3 := ⟨_, rfl⟩
      rw [em1] at HM1
      rw [em2] at hheld hcells
      rw [em3] at hcells
      have HM3 := Lib.hid (show m3 + 1 = m + 3 + nb by omega)
      have hm3b : m3 ≤ 1006000 := by omega
      have hm1b : m1 ≤ 1004001 := by omega
      have hm2b : m2 ≤ 1004002 := by omega
      have w1 : IntKind.i64.wrap ((m : Int) + 1) = (m1 : Int) := by rw [IntKind.wrap_i64]; omega
      have w2' : IntKind.i64.wrap ((m1 : Int) + 1) = (m2 : Int) := by rw [IntKind.wrap_i64]; omega
      have ht3 := third_is m3
      obtain ⟨t3, et3⟩ : ∃ t, third m3 = t := ⟨_, rfl⟩
      rw [et3] at hcells ht3
      have htt : (t3 != t3) = false := by simp
      have hpos3 : ¬ (m3 : Int) < 0 := by omega
      have HHS := Lib.hid (fun (W : World) (hW : Below w.heap.size w W) => (by have := heldStringS_laws m2 nb u W (hheld.on hW) (by omega) (by omega) (by omega); rw [em3] at this; exact this : Calls Tryz.prog 71 #[u, .int .i64 (m2 : Int)] W (Ans (.int .i64 (m3 : Int)) W)))
      have HC := Lib.hid hcells
      clear hcells hheld hx hxm hat0 hat es0 es1 em1 em2 em3 et3 enb eu HA HH
      go_upto_region 4 with fail
      refine RI.region_det (by kernel_rfl) [.slice (some ⟨g, off, none⟩) n cap, .int .i64 (i : Int), .pointer (some ⟨g, off + i * 4, none⟩), .pointer (some ⟨g, off + i * 4, none⟩), .string ⟨s0.toArray⟩, .int .i64 (m : Int), .string ⟨s0.toArray⟩, .bool false] (fun W => Below w.heap.size w W) (none :: none :: none :: none :: none :: none :: none :: none :: none :: none :: none :: none :: some 0 :: some 1 :: some 2 :: some 3 :: some 4 :: some 5 :: some 6 :: some 7 :: none :: none :: none :: none :: none :: none :: none :: none :: none :: none :: none :: none :: none :: none :: none :: none :: none :: none :: none :: none :: none :: none :: none :: none :: none :: none :: none :: none :: none :: none :: none :: none :: none :: []) (by kernel_rfl) (by kernel_rfl) (⟨hB.os, hB.tape, hB.output, hB.size, hB.block⟩) ?_ ?_
      · intro i hi A W hB hA
        have hi2 : i < 8 := hi
        have hcase : i = 0 ∨ i = 1 ∨ i = 2 ∨ i = 3 ∨ i = 4 ∨ i = 5 ∨ i = 6 ∨ i = 7 := by omega
        clear hi hi2
        rcases hcase with rfl | rfl | rfl | rfl | rfl | rfl | rfl | rfl
        · have s0 : A.tmps[0]?.getD undef = .slice (some ⟨g, off, none⟩) n cap := (hA.st 0 (by kernel_rfl)).trans rfl
          exact wpOp_of rfl rfl (wp_value (v := .slice (some ⟨g, off, none⟩) n cap) (W' := W) (by simp [execOp, Act.eval, s0, go_sem]) ⟨rfl, hB⟩)
        · have s5 : A.tmps[5]?.getD undef = .int .i64 (i : Int) := (hA.st 5 (by kernel_rfl)).trans rfl
          exact wpOp_of rfl rfl (wp_value (v := .int .i64 (i : Int)) (W' := W) (by simp [execOp, Act.eval, s5, go_sem]) ⟨rfl, hB⟩)
        · have s12 : A.tmps[12]?.getD undef = .slice (some ⟨g, off, none⟩) n cap := hA.on 0 12 (by kernel_rfl) (by kernel_rfl)
          have s13 : A.tmps[13]?.getD undef = .int .i64 (i : Int) := hA.on 1 13 (by kernel_rfl) (by kernel_rfl)
          exact wpOp_of rfl rfl (wp_value (v := .pointer (some ⟨g, off + i * 4, none⟩)) (W' := W) (by simp [execOp, Act.eval, s12, s13, go_sem, hlt', i0']) ⟨rfl, hB⟩)
        · have s14 : A.tmps[14]?.getD undef = .pointer (some ⟨g, off + i * 4, none⟩) := hA.on 2 14 (by kernel_rfl) (by kernel_rfl)
          exact wpOp_of rfl rfl (wp_value (v := .pointer (some ⟨g, off + i * 4, none⟩)) (W' := W) (by simp [execOp, Act.eval, s14, go_sem]) ⟨rfl, hB⟩)
        · have s15 : A.tmps[15]?.getD undef = .pointer (some ⟨g, off + i * 4, none⟩) := hA.on 3 15 (by kernel_rfl) (by kernel_rfl)
          obtain ⟨cW, _, _, _⟩ := HC.out W hB
          exact wpOp_of rfl rfl (wp_value (v := .string ⟨s0.toArray⟩) (W' := W) (by simp [execOp, Act.eval, s15, go_sem, cW]) ⟨rfl, hB⟩)
        · have s1 : A.tmps[1]?.getD undef = .int .i64 (m : Int) := (hA.st 1 (by kernel_rfl)).trans rfl
          exact wpOp_of rfl rfl (wp_value (v := .int .i64 (m : Int)) (W' := W) (by simp [execOp, Act.eval, s1, go_sem]) ⟨rfl, hB⟩)
        · have s17 : A.tmps[17]?.getD undef = .int .i64 (m : Int) := hA.on 5 17 (by kernel_rfl) (by kernel_rfl)
          refine wpOp_of rfl rfl (wp_enter (f := 69) (args := #[.int .i64 (m : Int)]) (by simp [execOp, Act.eval, s17, go_sem]) ?_)
          refine (HM0.out W).mono ?_
          rintro e w' ⟨rfl, hb'⟩
          exact ⟨_, rfl, rfl, hB.trans (hb'.mono hB.size)⟩
        · have s16 : A.tmps[16]?.getD undef = .string ⟨s0.toArray⟩ := hA.on 4 16 (by kernel_rfl) (by kernel_rfl)
          have s18 : A.tmps[18]?.getD undef = .string ⟨s0.toArray⟩ := hA.on 6 18 (by kernel_rfl) (by kernel_rfl)
          exact wpOp_of rfl rfl (wp_value (v := .bool false) (W' := W) (by simp [execOp, Act.eval, s16, s18, go_sem]) ⟨rfl, hB⟩)
      intro wR hR
      simp only [RI.mergeL, List.getElem?_cons_zero, List.getElem?_cons_succ, Option.getD_some]
      go_upto_region 7 with fail
      refine RI.region_det (by kernel_rfl) [.slice (some ⟨g, off, none⟩) n cap, .int .i64 (i : Int), .pointer (some ⟨g, off + i * 4, none⟩), .pointer (some ⟨g, off + i * 4 + 1, none⟩), .string ⟨s1.toArray⟩, .int .i64 (m1 : Int), .string ⟨s1.toArray⟩, .bool false] (fun W => Below w.heap.size w W) (none :: none :: none :: none :: none :: none :: none :: none :: none :: none :: none :: none :: none :: none :: none :: none :: none :: none :: none :: none :: none :: none :: some 0 :: some 1 :: some 2 :: some 3 :: some 4 :: some 5 :: some 6 :: some 7 :: none :: none :: none :: none :: none :: none :: none :: none :: none :: none :: none :: none :: none :: none :: none :: none :: none :: none :: none :: none :: none :: none :: none :: []) (by kernel_rfl) (by kernel_rfl) (⟨hR.os, hR.tape, hR.output, hR.size, hR.block⟩) ?_ ?_
      · intro i hi A W hB hA
        have hi2 : i < 8 := hi
        have hcase : i = 0 ∨ i = 1 ∨ i = 2 ∨ i = 3 ∨ i = 4 ∨ i = 5 ∨ i = 6 ∨ i = 7 := by omega
        clear hi hi2
        rcases hcase with rfl | rfl | rfl | rfl | rfl | rfl | rfl | rfl
        · have s0 : A.tmps[0]?.getD undef = .slice (some ⟨g, off, none⟩) n cap := (hA.st 0 (by kernel_rfl)).trans rfl
          exact wpOp_of rfl rfl (wp_value (v := .slice (some ⟨g, off, none⟩) n cap) (W' := W) (by simp [execOp, Act.eval, s0, go_sem]) ⟨rfl, hB⟩)
        · have s5 : A.tmps[5]?.getD undef = .int .i64 (i : Int) := (hA.st 5 (by kernel_rfl)).trans rfl
          exact wpOp_of rfl rfl (wp_value (v := .int .i64 (i : Int)) (W' := W) (by simp [execOp, Act.eval, s5, go_sem]) ⟨rfl, hB⟩)
        · have s22 : A.tmps[22]?.getD undef = .slice (some ⟨g, off, none⟩) n cap := hA.on 0 22 (by kernel_rfl) (by kernel_rfl)
          have s23 : A.tmps[23]?.getD undef = .int .i64 (i : Int) := hA.on 1 23 (by kernel_rfl) (by kernel_rfl)
          exact wpOp_of rfl rfl (wp_value (v := .pointer (some ⟨g, off + i * 4, none⟩)) (W' := W) (by simp [execOp, Act.eval, s22, s23, go_sem, hlt', i0']) ⟨rfl, hB⟩)
        · have s24 : A.tmps[24]?.getD undef = .pointer (some ⟨g, off + i * 4, none⟩) := hA.on 2 24 (by kernel_rfl) (by kernel_rfl)
          exact wpOp_of rfl rfl (wp_value (v := .pointer (some ⟨g, off + i * 4 + 1, none⟩)) (W' := W) (by simp [execOp, Act.eval, s24, go_sem]) ⟨rfl, hB⟩)
        · have s25 : A.tmps[25]?.getD undef = .pointer (some ⟨g, off + i * 4 + 1, none⟩) := hA.on 3 25 (by kernel_rfl) (by kernel_rfl)
          obtain ⟨_, cW, _, _⟩ := HC.out W hB
          exact wpOp_of rfl rfl (wp_value (v := .string ⟨s1.toArray⟩) (W' := W) (by simp [execOp, Act.eval, s25, go_sem, cW]) ⟨rfl, hB⟩)
        · have s1 : A.tmps[1]?.getD undef = .int .i64 (m1 : Int) := (hA.st 1 (by kernel_rfl)).trans rfl
          exact wpOp_of rfl rfl (wp_value (v := .int .i64 (m1 : Int)) (W' := W) (by simp [execOp, Act.eval, s1, go_sem]) ⟨rfl, hB⟩)
        · have s27 : A.tmps[27]?.getD undef = .int .i64 (m1 : Int) := hA.on 5 27 (by kernel_rfl) (by kernel_rfl)
          refine wpOp_of rfl rfl (wp_enter (f := 69) (args := #[.int .i64 (m1 : Int)]) (by simp [execOp, Act.eval, s27, go_sem]) ?_)
          refine (HM1.out W).mono ?_
          rintro e w' ⟨rfl, hb'⟩
          exact ⟨_, rfl, rfl, hB.trans (hb'.mono hB.size)⟩
        · have s26 : A.tmps[26]?.getD undef = .string ⟨s1.toArray⟩ := hA.on 4 26 (by kernel_rfl) (by kernel_rfl)
          have s28 : A.tmps[28]?.getD undef = .string ⟨s1.toArray⟩ := hA.on 6 28 (by kernel_rfl) (by kernel_rfl)
          exact wpOp_of rfl rfl (wp_value (v := .bool false) (W' := W) (by simp [execOp, Act.eval, s26, s28, go_sem]) ⟨rfl, hB⟩)
      intro wS hS
      simp only [RI.mergeL, List.getElem?_cons_zero, List.getElem?_cons_succ, Option.getD_some]
      obtain ⟨_, _, e2, _⟩ := HC.out _ hS
      go_wp2_with fail
      refine (HHS.out _ hS).mono ?_
      rintro e w7 ⟨rfl, g7⟩
      have hB7 := hS.trans (g7.mono hS.size)
      obtain ⟨_, _, _, e3⟩ := HC.out _ hB7
      clear e2
      go_wp2_with fail
      go_roundg (n - (i + 1))
      case measure => omega
      case rel => exact ⟨i + 1, m3 + 1, by go_num, by go_num, by omega, Lib.hid (by rw [HEN.out, HM3.out]), hB7⟩
    · have hlt' : ¬ (i : Int) < (n : Int) := by omega
      have HZ := Lib.hid (show endK k xs = m by
        have := HE.out
        rwa [List.take_of_length_le (by rw [HN.out]; omega)] at this)
      go_wp2_with fail
      go_ret
      exact ⟨by rw [HZ.out]; rfl, hB⟩

end Go.Proofs.YtliihnkonakacaaGreatDoor.B10
