/- For FnExactGrown's walk: what is kept while marks are laid, and its drawn rows. -/
import Derived.Test.YtgaggpnlimchkaaGreatDoorGrowS11
import Derived.Test.YtgaggpnlimchkaaGreatDoorMarks11
namespace Go.Proofs.YtgaggpnlimchkaaGreatDoor.B11
open Go.Proofs.YtgaggpnlimchkaaGreatDoor.P1 Go.Proofs.YtgaggpnlimchkaaGreatDoor.B1 Go.Proofs.YtgaggpnlimchkaaGreatDoor.B2 Go.Proofs.YtgaggpnlimchkaaGreatDoor.T1 Go.Proofs.YtgaggpnlimchkaaGreatDoor.BT Go.Proofs.YtgaggpnlimchkaaGreatDoor.P5 Go.Proofs.YtgaggpnlimchkaaGreatDoor.B5 Go.Proofs.YtgaggpnlimchkaaGreatDoor.P6 Go.Proofs.YtgaggpnlimchkaaGreatDoor.P9 Go.Proofs.YtgaggpnlimchkaaGreatDoor.B6 Go.Proofs.YtgaggpnlimchkaaGreatDoor.B9 Go.Proofs.YtgaggpnlimchkaaGreatDoor.D1 Go.Proofs.YtgaggpnlimchkaaGreatDoor.W8 Go.Proofs.YtgaggpnlimchkaaGreatDoor.RC Go.Proofs.YtgaggpnlimchkaaGreatDoor.RI Go.Proofs.YtgaggpnlimchkaaGreatDoor.P10 Go.Proofs.YtgaggpnlimchkaaGreatDoor.B10 Go.Proofs.YtgaggpnlimchkaaGreatDoor.P11
open Go.ChangeShapes Go.WideShapes Go.ChangeAt Go.RowKit
set_option linter.unusedVariables false

theorem grown_sz (t : List Fi) (f : Fi) : szFis (grown t f).1 ≤ szFis t + 1 + szFi f := by
  unfold grown
  split
  · split
    · show szFis (t ++ [f]) ≤ _
      unfold szFis
      simp only [List.length_append, List.map_append, List.sum_append, List.map_cons, List.map_nil, List.sum_cons, List.sum_nil, List.length_cons, List.length_nil]
      omega
    · show szFis t ≤ _
      omega
  · show szFis [] ≤ _
    unfold szFis
    simp

theorem grown_mem {t : List Fi} {f p : Fi} (h : p ∈ (grown t f).1) : p ∈ t ∨ p = f := by
  unfold grown at h
  split at h
  · split at h
    · rcases List.mem_append.1 h with h | h
      · exact Or.inl h
      · exact Or.inr (by simpa using h)
    · exact Or.inl h
  · cases h

theorem grown_len (t : List Fi) (f : Fi) : (grown t f).1.length ≤ t.length + 1 := by
  unfold grown
  split
  · split
    · simp
    · simp
  · simp

theorem Mid.lblk {B T b : Nat} {w w' : World} {vs : List Value} (h : Mid B T w w') (hl : LBlk w b vs) (hb : b < B ∨ T ≤ b) : LBlk w' b vs := by
  have e := h.block b hl.1 hb
  refine ⟨Nat.lt_of_lt_of_le hl.1 h.size, fun i v hv => ?_⟩
  obtain ⟨c1, c2⟩ := hl.2 i v hv
  exact ⟨by rw [← c1]; exact World.cell?_of_block (w := w) e, by rw [← c2]; exact World.frozen?_of_block (w := w) e⟩

theorem Mid.oneG {B T C : Nat} {w w' : World} {y : Fv} (h : Mid B T w w') (ho : OneG C y w) (hC : T ≤ C) : OneG C y w' := ⟨h.row ho.b hC, h.row ho.n hC⟩

theorem Mid.ownG {B T C : Nat} {w w' : World} {v : Value} {zs : List Fv} (h : Mid B T w w') (ho : OwnG C v zs w) (hC : T ≤ C) : OwnG C v zs w' := ⟨h.row ho.own hC, fun z hz => h.oneG (ho.hs z hz) hC, ho.ab, ho.an⟩

theorem Mid.rowF {B T C : Nat} {w w' : World} {y : Fv} (h : Mid B T w w') (hr : RowF C w y) (hC : T ≤ C) : RowF C w' y := by
  obtain ⟨bu, bn, e1, e2, h1, h2, h3, h4, h5⟩ := hr
  exact ⟨bu, bn, e1, e2, h1, h2, h3, h.lblk h4 (Or.inr (by omega)), h.lblk h5 (Or.inr (by omega))⟩

theorem RowF.rb {C : Nat} {W : World} {y : Fv} (hr : RowF C W y) (f1 : y.f.bs.length ≤ 2000000) (f2 : y.f.ns.length ≤ 2000000) : RB y W := by
  obtain ⟨bu, bn, e1, e2, h1, h2, h3, h4, h5⟩ := hr
  refine ⟨Or.inr ⟨bu, _, e1, Nat.le_refl _, by omega, by rw [← flat_strs]; exact h4⟩, Or.inr ⟨bn, _, e2, Nat.le_refl _, by omega, h5⟩, Or.inr ?_⟩
  rw [e1, e2]
  intro e
  have : bu = bn := Option.some.inj e
  omega

theorem rowF_inB2 {B : Nat} {W : World} {y : Fv} (h : RowF B W y) : InB B W.heap.size y.u ∧ InB B W.heap.size y.n := by
  obtain ⟨bu, bn, e1, e2, h1, h2, _, h4, h5⟩ := h
  rw [e1, e2]
  exact ⟨fun q e => by have : bu = q := Option.some.inj e; have := h4.1; omega, fun q e => by have : bn = q := Option.some.inj e; have := h5.1; omega⟩

/-- Marks on a tree of the call's own. -/
theorem markFigureS_own (xs : List Fv) (v : Value) (B : Nat) (w : World) (h : OwnG B v xs w) (hB : B ≤ w.heap.size) (hs : xs.length ≤ 2000000) (hb : ∀ x ∈ xs, x.f.bs.length ≤ 2000000 ∧ x.f.ns.length ≤ 2000000) (hk : endF 1 xs ≤ 90000000) :
    Calls Tryz.prog 31 #[v, .int .i64 1] w fun e w' => e = .returned (.int .i64 ((endF 1 xs : Nat) : Int)) ∧ FiSlc w' v (markFs 1 xs) ∧ Below B w w' := by
  rcases h.own.2 with ⟨rfl, h0⟩ | ⟨g, cap, cur, rfl, hbg, hbk, _⟩
  · have hx : xs = [] := List.length_eq_zero_iff.1 h0
    subst hx
    refine (markFigureS_none 1 w).mono ?_
    rintro e w' ⟨rfl, hw⟩
    exact ⟨rfl, ⟨⟨none, 0, rfl, Nat.le_refl _, by decide, fun h => absurd rfl h⟩, fun x hx => by cases hx⟩, hw.mono hB⟩
  · obtain ⟨hm, h1, h2⟩ := h.mg
    refine (markFigureS_rows xs 1 xs.length g cap B w.heap.size w rfl hm h1 hs hb (Nat.le_refl _) hk ⟨hbg, (Array.getElem?_eq_some_iff.1 hbk).1⟩ (fun x hx => ⟨fun q hq => World.ownsRow.lt (h.hs x hx).b q hq, fun q hq => World.ownsRow.lt (h.hs x hx).n q hq⟩)).mono ?_
    rintro e w' ⟨rfl, hm2, hmid⟩
    have := hm2.slc (cap := cap) (by rw [markFs_len]; exact h1) h2
    rw [markFs_len] at this
    exact ⟨rfl, this, hmid.below hB⟩

/-! ### g, is := Grown(toFigureS(aT), toFigure(aF)) -/

structure GX (W0 : World) (t : Value) (x : Fv) (xs : List Fv) (q : List Fi × Bool) (L : Array Bool) (vs : List Value) (W : World) : Prop where
  b : Below W0.heap.size W0 W
  c54 : dn L 5 → dn L 4
  c65 : dn L 6 → dn L 5
  c86 : dn L 8 → dn L 6
  h0 : dn L 0 → vl vs 0 = t
  h1 : dn L 1 → ∃ ys, FiSlc W (vl vs 1) ys ∧ fis ys = fis xs
  h2 : dn L 2 → vl vs 2 = fiV x
  h3 : dn L 3 → ∃ y, vl vs 3 = fiV y ∧ HeldF W y ∧ y.f = x.f
  h4 : dn L 4 → ∃ v4 zs, vl vs 4 = .tuple #[v4, .bool q.2] ∧ OwnG W0.heap.size v4 zs W ∧ fis zs = q.1
  h5 : dn L 5 → vl vs 5 = vl vs 4
  h6 : dn L 6 → vl vs 4 = .tuple #[vl vs 6, .bool q.2]
  h7 : dn L 7 → vl vs 7 = .bool q.2
  h8 : dn L 8 → vl vs 8 = vl vs 6
  h9 : dn L 9 → vl vs 9 = .bool q.2

theorem GX.on {W0 : World} {t : Value} {x : Fv} {xs : List Fv} {q : List Fi × Bool} {L : Array Bool} {vs : List Value} {W W' : World} (h : GX W0 t x xs q L vs W) (g : Below W.heap.size W W') : GX W0 t x xs q L vs W' := by
  refine ⟨h.b.trans (g.mono h.b.size), h.c54, h.c65, h.c86, h.h0, fun d => ?_, h.h2, fun d => ?_, fun d => ?_, h.h5, h.h6, h.h7, h.h8, h.h9⟩
  · obtain ⟨ys, a, b⟩ := h.h1 d
    exact ⟨ys, a.on g, b⟩
  · obtain ⟨y, a, b, c⟩ := h.h3 d
    exact ⟨y, a, b.on g, c⟩
  · obtain ⟨v4, zs, a, b, c⟩ := h.h4 d
    exact ⟨v4, zs, a, b.on g, c⟩

theorem GX.slot {W0 : World} {t : Value} {x : Fv} {xs : List Fv} {q : List Fi × Bool} {L : Array Bool} {ops : Array Oper} {A : Act} {W : World} (h : GX W0 t x xs q L (B10.valsOf ops A) W) {j d : Nat} (hd : dstOf ops j = some d) : A.tmps[d]?.getD undef = vl (B10.valsOf ops A) j := (B10.valsOf_at hd).symm

theorem GX.set {W0 : World} {t : Value} {x : Fv} {xs : List Fv} {q : List Fi × Bool} {L : Array Bool} {vs vs' : List Value} {W : World} (h : GX W0 t x xs q L vs W) {i : Nat} (hn : ¬ dn L i) (hvs : ∀ j, j ≠ i → vl vs' j = vl vs j)
    (q0 : i = 0 → vl vs' 0 = t) (q1 : i = 1 → ∃ ys, FiSlc W (vl vs' 1) ys ∧ fis ys = fis xs) (q2 : i = 2 → vl vs' 2 = fiV x) (q3 : i = 3 → ∃ y, vl vs' 3 = fiV y ∧ HeldF W y ∧ y.f = x.f)
    (q4 : i = 4 → ∃ v4 zs, vl vs' 4 = .tuple #[v4, .bool q.2] ∧ OwnG W0.heap.size v4 zs W ∧ fis zs = q.1)
    (q5 : i = 5 → dn L 4 ∧ vl vs' 5 = vl vs 4) (q6 : i = 6 → dn L 5 ∧ vl vs 4 = .tuple #[vl vs' 6, .bool q.2]) (q7 : i = 7 → vl vs' 7 = .bool q.2) (q8 : i = 8 → dn L 6 ∧ vl vs' 8 = vl vs 6) (q9 : i = 9 → vl vs' 9 = .bool q.2) : GX W0 t x xs q (L.setIfInBounds i true) vs' W := by
  have D : ∀ j, j ≠ i → (dn (L.setIfInBounds i true) j ↔ dn L j) := fun j hj => dn_iff hj
  have D4 : dn L 4 → dn (L.setIfInBounds i true) 4 := fun d => (D 4 (fun e => hn (by rw [← e]; exact d))).2 d
  have D5 : dn L 5 → dn (L.setIfInBounds i true) 5 := fun d => (D 5 (fun e => hn (by rw [← e]; exact d))).2 d
  have D6 : dn L 6 → dn (L.setIfInBounds i true) 6 := fun d => (D 6 (fun e => hn (by rw [← e]; exact d))).2 d
  have V4 : dn L 4 → vl vs' 4 = vl vs 4 := fun d => hvs 4 (fun e => hn (by rw [← e]; exact d))
  have V6 : dn L 6 → vl vs' 6 = vl vs 6 := fun d => hvs 6 (fun e => hn (by rw [← e]; exact d))
  refine ⟨h.b, fun d => ?_, fun d => ?_, fun d => ?_, fun d => ?_, fun d => ?_, fun d => ?_, fun d => ?_, fun d => ?_, fun d => ?_, fun d => ?_, fun d => ?_, fun d => ?_, fun d => ?_⟩
  · by_cases e : i = 5
    · exact D4 (q5 e).1
    · exact D4 (h.c54 ((D 5 (Ne.symm e)).1 d))
  · by_cases e : i = 6
    · exact D5 (q6 e).1
    · exact D5 (h.c65 ((D 6 (Ne.symm e)).1 d))
  · by_cases e : i = 8
    · exact D6 (q8 e).1
    · exact D6 (h.c86 ((D 8 (Ne.symm e)).1 d))
  · by_cases e : i = 0
    · exact q0 e
    · rw [hvs 0 (Ne.symm e)]; exact h.h0 ((D 0 (Ne.symm e)).1 d)
  · by_cases e : i = 1
    · exact q1 e
    · rw [hvs 1 (Ne.symm e)]; exact h.h1 ((D 1 (Ne.symm e)).1 d)
  · by_cases e : i = 2
    · exact q2 e
    · rw [hvs 2 (Ne.symm e)]; exact h.h2 ((D 2 (Ne.symm e)).1 d)
  · by_cases e : i = 3
    · exact q3 e
    · rw [hvs 3 (Ne.symm e)]; exact h.h3 ((D 3 (Ne.symm e)).1 d)
  · by_cases e : i = 4
    · exact q4 e
    · rw [hvs 4 (Ne.symm e)]; exact h.h4 ((D 4 (Ne.symm e)).1 d)
  · by_cases e : i = 5
    · rw [V4 (q5 e).1]; exact (q5 e).2
    · have d5 := (D 5 (Ne.symm e)).1 d
      rw [V4 (h.c54 d5), hvs 5 (Ne.symm e)]; exact h.h5 d5
  · by_cases e : i = 6
    · rw [V4 (h.c54 (q6 e).1)]; exact (q6 e).2
    · have d6 := (D 6 (Ne.symm e)).1 d
      rw [V4 (h.c54 (h.c65 d6)), hvs 6 (Ne.symm e)]; exact h.h6 d6
  · by_cases e : i = 7
    · exact q7 e
    · rw [hvs 7 (Ne.symm e)]; exact h.h7 ((D 7 (Ne.symm e)).1 d)
  · by_cases e : i = 8
    · rw [V6 (q8 e).1]; exact (q8 e).2
    · have d8 := (D 8 (Ne.symm e)).1 d
      rw [V6 (h.c86 d8), hvs 8 (Ne.symm e)]; exact h.h8 d8
  · by_cases e : i = 9
    · exact q9 e
    · rw [hvs 9 (Ne.symm e)]; exact h.h9 ((D 9 (Ne.symm e)).1 d)

theorem GX.done {W0 : World} {t : Value} {x : Fv} {xs : List Fv} {q : List Fi × Bool} {L : Array Bool} {vs : List Value} {W : World} (h : GX W0 t x xs q L vs W) (hall : ∀ j, j < 10 → dn L j) : ∃ zs, OwnG W0.heap.size (vl vs 8) zs W ∧ fis zs = q.1 ∧ vl vs 9 = .bool q.2 := by
  obtain ⟨v4, zs, a, b, c⟩ := h.h4 (hall 4 (by decide))
  have e := (h.h6 (hall 6 (by decide))).symm.trans a
  injection e with e
  have e2 : vl vs 6 = v4 := by
    have := congrArg (fun z => z[0]?) e
    simpa using this
  exact ⟨zs, by rw [h.h8 (hall 8 (by decide)), e2]; exact b, c, h.h9 (hall 9 (by decide))⟩

end Go.Proofs.YtgaggpnlimchkaaGreatDoor.B11
