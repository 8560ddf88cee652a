/- Chapter 11: Grown of the program. -/
import Derived.Test.YtgaggpnlimchkaaGreatDoorCopy11
import Derived.Test.YtgaggpnlimchkaaGreatDoorFree10
import Derived.Test.YtgaggpnlimchkaaGreatDoorImp11
import Derived.Test.YtgaggpnlimchkaaGreatDoorSpec11
namespace Go.Proofs.YtgaggpnlimchkaaGreatDoor.B11
open Go.Proofs.YtgaggpnlimchkaaGreatDoor.P1 Go.Proofs.YtgaggpnlimchkaaGreatDoor.B1 Go.Proofs.YtgaggpnlimchkaaGreatDoor.B2 Go.Proofs.YtgaggpnlimchkaaGreatDoor.T1 Go.Proofs.YtgaggpnlimchkaaGreatDoor.BT Go.Proofs.YtgaggpnlimchkaaGreatDoor.P5 Go.Proofs.YtgaggpnlimchkaaGreatDoor.B5 Go.Proofs.YtgaggpnlimchkaaGreatDoor.P6 Go.Proofs.YtgaggpnlimchkaaGreatDoor.P9 Go.Proofs.YtgaggpnlimchkaaGreatDoor.B6 Go.Proofs.YtgaggpnlimchkaaGreatDoor.B9 Go.Proofs.YtgaggpnlimchkaaGreatDoor.D1 Go.Proofs.YtgaggpnlimchkaaGreatDoor.W8 Go.Proofs.YtgaggpnlimchkaaGreatDoor.RC Go.Proofs.YtgaggpnlimchkaaGreatDoor.RI Go.Proofs.YtgaggpnlimchkaaGreatDoor.P10 Go.Proofs.YtgaggpnlimchkaaGreatDoor.B10 Go.Proofs.YtgaggpnlimchkaaGreatDoor.P11
open Go.ChangeShapes Go.WideShapes Go.ChangeAt Go.RowKit
set_option linter.unusedVariables false

theorem done_of {L : Array Bool} {i j : Nat} (h : (L.setIfInBounds i true)[j]?.getD false = true) (hj : j ≠ i) : L[j]?.getD false = true := by
  rwa [Array.getElem?_setIfInBounds_ne (Ne.symm hj)] at h

theorem done_eq {L : Array Bool} {i j : Nat} (hj : j ≠ i) : (L.setIfInBounds i true)[j]?.getD false = L[j]?.getD false := by
  rw [Array.getElem?_setIfInBounds_ne (Ne.symm hj)]

theorem none_done {n j : Nat} (h : (Array.replicate n false)[j]?.getD false = true) : False := by
  rw [Array.getElem?_replicate] at h
  split at h <;> cases h

theorem apart_symm {a b : Option Nat} (h : a = none ∨ a ≠ b) : b = none ∨ b ≠ a := by
  by_cases hb : b = none
  · exact Or.inl hb
  · refine Or.inr fun e => ?_
    rcases h with h | h
    · exact hb (e.trans h)
    · exact h e.symm

/-- append, as an operation. -/
theorem exec_append {P : Program} {o : Oper} {A : Act} {W W' : World} {s x : Operand} {t : TypeId} {v sl v' : Value} (ho : o.op = .call { callee := .builtin .append, args := #[s, x], argTypes := #[t, t] }) (hs : A.eval s = v) (hx : A.eval x = sl)
    (hr : (Builtin.append_ #[t, t] o.type #[v, sl]).run P W = .ok v' W') : (execOp A.eval o).run P W = .ok (.value v') W' := by
  unfold execOp
  simp only [ho, resolve, invoke, builtin, Sem.run_bind, Sem.run_pure, Result.andThen_ok, List.map_toArray, List.map_cons, List.map_nil, hs, hx, hr]

theorem fis_app (ys : List Fv) (y : Fv) : fis (ys ++ [y]) = fis ys ++ [y.f] := by unfold fis; simp

/-- What Grown answers. -/
def GrownC (q : List Fi × Bool) (w : World) (e : Ending) (w' : World) : Prop := ∃ v b ys, e = .returned (.tuple #[v, .bool b]) ∧ OwnG w.heap.size v ys w' ∧ fis ys = q.1 ∧ b = q.2 ∧ Below w.heap.size w w'

def Apart2 (ys : List Fv) (y : Fv) : Prop := ∀ z ∈ ys, (z.u.ownBlock = none ∨ z.u.ownBlock ≠ y.u.ownBlock) ∧ (z.n.ownBlock = none ∨ z.n.ownBlock ≠ y.n.ownBlock)

/-- One figure more, whose rows lie apart from the others'. -/
theorem ownG_snocA {B d : Nat} {v v7 : Value} {zs : List Fv} {Z : Fv} {W W7 : World} (hd : zs.length = d) (h : OwnG B v zs W) (hZB : OneG B Z W) (hap : Apart2 zs Z) (hown : W7.ownsRow B 28 5 v7 (d + 1) ((fiRs zs).flatten ++ fiL Z)) (hg : W.grownBy W7 v.ownBlock) : OwnG B v7 (zs ++ [Z]) W7 := by
  refine ⟨?_, fun x hx => ?_, ?_, ?_⟩
  · rw [fiRs_snoc, List.length_append, hd]
    exact hown
  · rcases List.mem_append.1 hx with hx | hx
    · exact ⟨row_grownG (by decide) (h.hs x hx).b h.own hg, row_grownG (by decide) (h.hs x hx).n h.own hg⟩
    · obtain rfl : x = Z := by simpa using hx
      exact ⟨row_grownG (by decide) hZB.b h.own hg, row_grownG (by decide) hZB.n h.own hg⟩
  · rw [List.pairwise_append]
    refine ⟨h.ab, List.pairwise_singleton _ _, fun x hx y hy => ?_⟩
    obtain rfl : y = Z := by simpa using hy
    exact (hap x hx).1
  · rw [List.pairwise_append]
    refine ⟨h.an, List.pairwise_singleton _ _, fun x hx y hy => ?_⟩
    obtain rfl : y = Z := by simpa using hy
    exact (hap x hx).2

abbrev dn (L : Array Bool) (j : Nat) : Prop := L[j]?.getD false = true
abbrev vl (vs : List Value) (j : Nat) : Value := vs[j]?.getD undef

/-- What holds between the operations of Grown's last row. -/
structure GJ (B : Nat) (W0 : World) (t : Value) (x : Fv) (fs : List Fi) (L : Array Bool) (vs : List Value) (W : World) (ys : List Fv) (y : Fv) : Prop where
  b : Below W0.heap.size W0 W
  c43 : dn L 4 → dn L 3
  c54 : dn L 5 → dn L 4
  c51 : dn L 5 → dn L 1
  c65 : dn L 6 → dn L 5
  h0 : dn L 0 → vl vs 0 = t
  h1 : dn L 1 → ¬ dn L 5 → OwnG B (vl vs 1) ys W ∧ fis ys = fs
  h2 : dn L 2 → vl vs 2 = fiV x
  h3 : dn L 3 → ¬ dn L 5 → vl vs 3 = fiV y ∧ OneG B y W ∧ y.f = x.f
  h4 : dn L 4 → ∃ b4, vl vs 4 = .slice (some ⟨b4, 0, none⟩) 1 1 ∧ (¬ dn L 5 → LBlk W b4 (fiL y))
  h13 : dn L 1 → dn L 3 → Apart2 ys y
  h5 : dn L 5 → ∃ zs, OwnG B (vl vs 5) zs W ∧ fis zs = fs ++ [x.f]
  h6 : dn L 6 → vl vs 6 = vl vs 5
  h7 : dn L 7 → vl vs 7 = .bool true

/-- A value is laid, and the world goes on. -/
theorem GJ.move {B : Nat} {W0 W : World} {t : Value} {x : Fv} {fs : List Fi} {L : Array Bool} {vs vs' : List Value} {ys : List Fv} {y : Fv} (h : GJ B W0 t x fs L vs W ys y) {i : Nat} (hi : i = 0 ∨ i = 2 ∨ i = 6 ∨ i = 7) (hvs : ∀ j, j ≠ i → vl vs' j = vl vs j)
    (h65 : i = 6 → dn L 5) (h0 : i = 0 → vl vs' 0 = t) (h2 : i = 2 → vl vs' 2 = fiV x) (h6 : i = 6 → vl vs' 6 = vl vs 5) (h7 : i = 7 → vl vs' 7 = .bool true) : GJ B W0 t x fs (L.setIfInBounds i true) vs' W ys y := by
  have d1 : dn (L.setIfInBounds i true) 1 → dn L 1 := fun h => done_of h (by omega)
  have d3 : dn (L.setIfInBounds i true) 3 → dn L 3 := fun h => done_of h (by omega)
  have d4 : dn (L.setIfInBounds i true) 4 → dn L 4 := fun h => done_of h (by omega)
  have d5 : dn (L.setIfInBounds i true) 5 → dn L 5 := fun h => done_of h (by omega)
  have e1 : (L.setIfInBounds i true)[1]?.getD false = L[1]?.getD false := done_eq (by omega)
  have e3 : (L.setIfInBounds i true)[3]?.getD false = L[3]?.getD false := done_eq (by omega)
  have e4 : (L.setIfInBounds i true)[4]?.getD false = L[4]?.getD false := done_eq (by omega)
  have e5 : (L.setIfInBounds i true)[5]?.getD false = L[5]?.getD false := done_eq (by omega)
  have v1 := hvs 1 (by omega)
  have v3 := hvs 3 (by omega)
  have v4 := hvs 4 (by omega)
  have v5 := hvs 5 (by omega)
  refine ⟨h.b, ?_, ?_, ?_, ?_, ?_, ?_, ?_, ?_, ?_, ?_, ?_, ?_, ?_⟩
  · intro q; have := h.c43 (d4 q); show (L.setIfInBounds i true)[3]?.getD false = true; rw [e3]; exact this
  · intro q; have := h.c54 (d5 q); show (L.setIfInBounds i true)[4]?.getD false = true; rw [e4]; exact this
  · intro q; have := h.c51 (d5 q); show (L.setIfInBounds i true)[1]?.getD false = true; rw [e1]; exact this
  · intro q
    show (L.setIfInBounds i true)[5]?.getD false = true
    rw [e5]
    by_cases e : i = 6
    · exact h65 e
    · exact h.c65 (done_of q (fun e' => e e'.symm))
  · intro q
    by_cases e : i = 0
    · exact h0 e
    · rw [hvs 0 (fun e' => e e'.symm)]; exact h.h0 (done_of q (fun e' => e e'.symm))
  · intro q q5
    rw [v1]
    refine h.h1 (d1 q) (fun e => q5 ?_)
    show (L.setIfInBounds i true)[5]?.getD false = true
    rw [e5]; exact e
  · intro q
    by_cases e : i = 2
    · exact h2 e
    · rw [hvs 2 (fun e' => e e'.symm)]; exact h.h2 (done_of q (fun e' => e e'.symm))
  · intro q q5
    rw [v3]
    refine h.h3 (d3 q) (fun e => q5 ?_)
    show (L.setIfInBounds i true)[5]?.getD false = true
    rw [e5]; exact e
  · intro q
    obtain ⟨b4, hb, hl⟩ := h.h4 (d4 q)
    refine ⟨b4, by rw [v4]; exact hb, fun q5 => hl (fun e => q5 ?_)⟩
    show (L.setIfInBounds i true)[5]?.getD false = true
    rw [e5]; exact e
  · exact fun q q' => h.h13 (d1 q) (d3 q')
  · intro q
    rw [v5]; exact h.h5 (d5 q)
  · intro q
    by_cases e : i = 6
    · rw [v5]; exact h6 e
    · rw [hvs 6 (fun e' => e e'.symm), v5]; exact h.h6 (done_of q (fun e' => e e'.symm))
  · intro q
    by_cases e : i = 7
    · exact h7 e
    · rw [hvs 7 (fun e' => e e'.symm)]; exact h.h7 (done_of q (fun e' => e e'.symm))

theorem GJ.tree {B : Nat} {W0 W W' : World} {t v : Value} {x : Fv} {fs : List Fi} {L : Array Bool} {vs vs' : List Value} {ys ys' : List Fv} {y : Fv} (h : GJ B W0 t x fs L vs W ys y) (hB : B ≤ W0.heap.size) (hn : ¬ dn L 1) (g : Below W.heap.size W W') (ho : OwnG W.heap.size v ys' W') (hf : fis ys' = fs) (hvs : ∀ j, j ≠ 1 → vl vs' j = vl vs j) (hv : vl vs' 1 = v) : GJ B W0 t x fs (L.setIfInBounds 1 true) vs' W' ys' y := by
  have d0 : dn (L.setIfInBounds 1 true) 0 → dn L 0 := fun h => done_of h (by decide)
  have u0 : dn L 0 → dn (L.setIfInBounds 1 true) 0 := fun h => by show (L.setIfInBounds 1 true)[0]?.getD false = true; rw [done_eq (by decide)]; exact h
  have v0 := hvs 0 (by decide)
  have d2 : dn (L.setIfInBounds 1 true) 2 → dn L 2 := fun h => done_of h (by decide)
  have u2 : dn L 2 → dn (L.setIfInBounds 1 true) 2 := fun h => by show (L.setIfInBounds 1 true)[2]?.getD false = true; rw [done_eq (by decide)]; exact h
  have v2 := hvs 2 (by decide)
  have d3 : dn (L.setIfInBounds 1 true) 3 → dn L 3 := fun h => done_of h (by decide)
  have u3 : dn L 3 → dn (L.setIfInBounds 1 true) 3 := fun h => by show (L.setIfInBounds 1 true)[3]?.getD false = true; rw [done_eq (by decide)]; exact h
  have v3 := hvs 3 (by decide)
  have d4 : dn (L.setIfInBounds 1 true) 4 → dn L 4 := fun h => done_of h (by decide)
  have u4 : dn L 4 → dn (L.setIfInBounds 1 true) 4 := fun h => by show (L.setIfInBounds 1 true)[4]?.getD false = true; rw [done_eq (by decide)]; exact h
  have v4 := hvs 4 (by decide)
  have d5 : dn (L.setIfInBounds 1 true) 5 → dn L 5 := fun h => done_of h (by decide)
  have u5 : dn L 5 → dn (L.setIfInBounds 1 true) 5 := fun h => by show (L.setIfInBounds 1 true)[5]?.getD false = true; rw [done_eq (by decide)]; exact h
  have v5 := hvs 5 (by decide)
  have d6 : dn (L.setIfInBounds 1 true) 6 → dn L 6 := fun h => done_of h (by decide)
  have u6 : dn L 6 → dn (L.setIfInBounds 1 true) 6 := fun h => by show (L.setIfInBounds 1 true)[6]?.getD false = true; rw [done_eq (by decide)]; exact h
  have v6 := hvs 6 (by decide)
  have d7 : dn (L.setIfInBounds 1 true) 7 → dn L 7 := fun h => done_of h (by decide)
  have u7 : dn L 7 → dn (L.setIfInBounds 1 true) 7 := fun h => by show (L.setIfInBounds 1 true)[7]?.getD false = true; rw [done_eq (by decide)]; exact h
  have v7 := hvs 7 (by decide)
  have hBW : B ≤ W.heap.size := Nat.le_trans hB h.b.size
  have n5 : ¬ dn L 5 := fun q => hn (h.c51 q)
  refine ⟨h.b.trans (g.mono h.b.size), fun q => u3 (h.c43 (d4 q)), fun q => u4 (h.c54 (d5 q)), fun q => absurd (d5 q) n5, fun q => absurd (h.c65 (d6 q)) n5, ?_, ?_, ?_, ?_, ?_, ?_, ?_, ?_, ?_⟩
  · intro q; rw [v0]; exact h.h0 (d0 q)
  · intro _ _; rw [hv]; exact ⟨ho.base hBW, hf⟩
  · intro q; rw [v2]; exact h.h2 (d2 q)
  · intro q q5
    rw [v3]
    obtain ⟨a, b, c⟩ := h.h3 (d3 q) n5
    exact ⟨a, b.on g, c⟩
  · intro q
    obtain ⟨b4, hb, hl⟩ := h.h4 (d4 q)
    exact ⟨b4, by rw [v4]; exact hb, fun q5 => (hl n5).below g⟩
  · intro _ q z hz
    obtain ⟨_, b, _⟩ := h.h3 (d3 q) n5
    exact ⟨apart_symm (late_G b.b (ho.hs z hz).b), apart_symm (late_G b.n (ho.hs z hz).n)⟩
  · intro q; exact absurd (d5 q) n5
  · intro q; rw [v6, v5]; exact h.h6 (d6 q)
  · intro q; rw [v7]; exact h.h7 (d7 q)

theorem GJ.fig {B : Nat} {W0 W W' : World} {t : Value} {x : Fv} {fs : List Fi} {L : Array Bool} {vs vs' : List Value} {ys : List Fv} {y y' : Fv} (h : GJ B W0 t x fs L vs W ys y) (hB : B ≤ W0.heap.size) (hn : ¬ dn L 3) (g : Below W.heap.size W W') (ho : OneG W.heap.size y' W') (hf : y'.f = x.f) (hvs : ∀ j, j ≠ 3 → vl vs' j = vl vs j) (hv : vl vs' 3 = fiV y') : GJ B W0 t x fs (L.setIfInBounds 3 true) vs' W' ys y' := by
  have d0 : dn (L.setIfInBounds 3 true) 0 → dn L 0 := fun h => done_of h (by decide)
  have u0 : dn L 0 → dn (L.setIfInBounds 3 true) 0 := fun h => by show (L.setIfInBounds 3 true)[0]?.getD false = true; rw [done_eq (by decide)]; exact h
  have v0 := hvs 0 (by decide)
  have d1 : dn (L.setIfInBounds 3 true) 1 → dn L 1 := fun h => done_of h (by decide)
  have u1 : dn L 1 → dn (L.setIfInBounds 3 true) 1 := fun h => by show (L.setIfInBounds 3 true)[1]?.getD false = true; rw [done_eq (by decide)]; exact h
  have v1 := hvs 1 (by decide)
  have d2 : dn (L.setIfInBounds 3 true) 2 → dn L 2 := fun h => done_of h (by decide)
  have u2 : dn L 2 → dn (L.setIfInBounds 3 true) 2 := fun h => by show (L.setIfInBounds 3 true)[2]?.getD false = true; rw [done_eq (by decide)]; exact h
  have v2 := hvs 2 (by decide)
  have d4 : dn (L.setIfInBounds 3 true) 4 → dn L 4 := fun h => done_of h (by decide)
  have u4 : dn L 4 → dn (L.setIfInBounds 3 true) 4 := fun h => by show (L.setIfInBounds 3 true)[4]?.getD false = true; rw [done_eq (by decide)]; exact h
  have v4 := hvs 4 (by decide)
  have d5 : dn (L.setIfInBounds 3 true) 5 → dn L 5 := fun h => done_of h (by decide)
  have u5 : dn L 5 → dn (L.setIfInBounds 3 true) 5 := fun h => by show (L.setIfInBounds 3 true)[5]?.getD false = true; rw [done_eq (by decide)]; exact h
  have v5 := hvs 5 (by decide)
  have d6 : dn (L.setIfInBounds 3 true) 6 → dn L 6 := fun h => done_of h (by decide)
  have u6 : dn L 6 → dn (L.setIfInBounds 3 true) 6 := fun h => by show (L.setIfInBounds 3 true)[6]?.getD false = true; rw [done_eq (by decide)]; exact h
  have v6 := hvs 6 (by decide)
  have d7 : dn (L.setIfInBounds 3 true) 7 → dn L 7 := fun h => done_of h (by decide)
  have u7 : dn L 7 → dn (L.setIfInBounds 3 true) 7 := fun h => by show (L.setIfInBounds 3 true)[7]?.getD false = true; rw [done_eq (by decide)]; exact h
  have v7 := hvs 7 (by decide)
  have hBW : B ≤ W.heap.size := Nat.le_trans hB h.b.size
  have n4 : ¬ dn L 4 := fun q => hn (h.c43 q)
  have n5 : ¬ dn L 5 := fun q => n4 (h.c54 q)
  refine ⟨h.b.trans (g.mono h.b.size), fun q => absurd (d4 q) n4, fun q => absurd (d5 q) n5, fun q => absurd (d5 q) n5, fun q => absurd (h.c65 (d6 q)) n5, ?_, ?_, ?_, ?_, ?_, ?_, ?_, ?_, ?_⟩
  · intro q; rw [v0]; exact h.h0 (d0 q)
  · intro q _
    rw [v1]
    obtain ⟨a, b⟩ := h.h1 (d1 q) n5
    exact ⟨a.on g, b⟩
  · intro q; rw [v2]; exact h.h2 (d2 q)
  · intro _ _; exact ⟨hv, ho.base hBW, hf⟩
  · intro q; exact absurd (d4 q) n4
  · intro q _ z hz
    obtain ⟨a, _⟩ := h.h1 (d1 q) n5
    exact ⟨late_G (a.hs z hz).b ho.b, late_G (a.hs z hz).n ho.n⟩
  · intro q; exact absurd (d5 q) n5
  · intro q; rw [v6, v5]; exact h.h6 (d6 q)
  · intro q; rw [v7]; exact h.h7 (d7 q)

theorem GJ.lay {B : Nat} {W0 W W' : World} {t : Value} {x : Fv} {fs : List Fi} {L : Array Bool} {vs vs' : List Value} {ys : List Fv} {y : Fv} (h : GJ B W0 t x fs L vs W ys y) (hn : ¬ dn L 4) (h3 : dn L 3) (g : Below W.heap.size W W') {b4 : Nat} (hl : LBlk W' b4 (fiL y)) (hvs : ∀ j, j ≠ 4 → vl vs' j = vl vs j) (hv : vl vs' 4 = .slice (some ⟨b4, 0, none⟩) 1 1) : GJ B W0 t x fs (L.setIfInBounds 4 true) vs' W' ys y := by
  have d0 : dn (L.setIfInBounds 4 true) 0 → dn L 0 := fun h => done_of h (by decide)
  have u0 : dn L 0 → dn (L.setIfInBounds 4 true) 0 := fun h => by show (L.setIfInBounds 4 true)[0]?.getD false = true; rw [done_eq (by decide)]; exact h
  have v0 := hvs 0 (by decide)
  have d1 : dn (L.setIfInBounds 4 true) 1 → dn L 1 := fun h => done_of h (by decide)
  have u1 : dn L 1 → dn (L.setIfInBounds 4 true) 1 := fun h => by show (L.setIfInBounds 4 true)[1]?.getD false = true; rw [done_eq (by decide)]; exact h
  have v1 := hvs 1 (by decide)
  have d2 : dn (L.setIfInBounds 4 true) 2 → dn L 2 := fun h => done_of h (by decide)
  have u2 : dn L 2 → dn (L.setIfInBounds 4 true) 2 := fun h => by show (L.setIfInBounds 4 true)[2]?.getD false = true; rw [done_eq (by decide)]; exact h
  have v2 := hvs 2 (by decide)
  have d3 : dn (L.setIfInBounds 4 true) 3 → dn L 3 := fun h => done_of h (by decide)
  have u3 : dn L 3 → dn (L.setIfInBounds 4 true) 3 := fun h => by show (L.setIfInBounds 4 true)[3]?.getD false = true; rw [done_eq (by decide)]; exact h
  have v3 := hvs 3 (by decide)
  have d5 : dn (L.setIfInBounds 4 true) 5 → dn L 5 := fun h => done_of h (by decide)
  have u5 : dn L 5 → dn (L.setIfInBounds 4 true) 5 := fun h => by show (L.setIfInBounds 4 true)[5]?.getD false = true; rw [done_eq (by decide)]; exact h
  have v5 := hvs 5 (by decide)
  have d6 : dn (L.setIfInBounds 4 true) 6 → dn L 6 := fun h => done_of h (by decide)
  have u6 : dn L 6 → dn (L.setIfInBounds 4 true) 6 := fun h => by show (L.setIfInBounds 4 true)[6]?.getD false = true; rw [done_eq (by decide)]; exact h
  have v6 := hvs 6 (by decide)
  have d7 : dn (L.setIfInBounds 4 true) 7 → dn L 7 := fun h => done_of h (by decide)
  have u7 : dn L 7 → dn (L.setIfInBounds 4 true) 7 := fun h => by show (L.setIfInBounds 4 true)[7]?.getD false = true; rw [done_eq (by decide)]; exact h
  have v7 := hvs 7 (by decide)
  have n5 : ¬ dn L 5 := fun q => hn (h.c54 q)
  refine ⟨h.b.trans (g.mono h.b.size), fun q => u3 h3, fun q => absurd (d5 q) n5, fun q => absurd (d5 q) n5, fun q => absurd (h.c65 (d6 q)) n5, ?_, ?_, ?_, ?_, ?_, ?_, ?_, ?_, ?_⟩
  · intro q; rw [v0]; exact h.h0 (d0 q)
  · intro q _
    rw [v1]
    obtain ⟨a, b⟩ := h.h1 (d1 q) n5
    exact ⟨a.on g, b⟩
  · intro q; rw [v2]; exact h.h2 (d2 q)
  · intro q _
    rw [v3]
    obtain ⟨a, b, c⟩ := h.h3 (d3 q) n5
    exact ⟨a, b.on g, c⟩
  · intro _; exact ⟨b4, hv, fun _ => hl⟩
  · exact fun q q' => h.h13 (d1 q) (d3 q')
  · intro q; exact absurd (d5 q) n5
  · intro q; rw [v6, v5]; exact h.h6 (d6 q)
  · intro q; rw [v7]; exact h.h7 (d7 q)

theorem GJ.app {B : Nat} {W0 W W' : World} {t v : Value} {x : Fv} {fs : List Fi} {L : Array Bool} {vs vs' : List Value} {ys zs : List Fv} {y : Fv} (h : GJ B W0 t x fs L vs W ys y) (hn : ¬ dn L 5) (h1 : dn L 1) (hs : 5 < L.size) (h4 : dn L 4) (g : Below W0.heap.size W0 W') (ho : OwnG B v zs W') (hf : fis zs = fs ++ [x.f]) (hvs : ∀ j, j ≠ 5 → vl vs' j = vl vs j) (hv : vl vs' 5 = v) : GJ B W0 t x fs (L.setIfInBounds 5 true) vs' W' ys y := by
  have d0 : dn (L.setIfInBounds 5 true) 0 → dn L 0 := fun h => done_of h (by decide)
  have u0 : dn L 0 → dn (L.setIfInBounds 5 true) 0 := fun h => by show (L.setIfInBounds 5 true)[0]?.getD false = true; rw [done_eq (by decide)]; exact h
  have v0 := hvs 0 (by decide)
  have d1 : dn (L.setIfInBounds 5 true) 1 → dn L 1 := fun h => done_of h (by decide)
  have u1 : dn L 1 → dn (L.setIfInBounds 5 true) 1 := fun h => by show (L.setIfInBounds 5 true)[1]?.getD false = true; rw [done_eq (by decide)]; exact h
  have v1 := hvs 1 (by decide)
  have d2 : dn (L.setIfInBounds 5 true) 2 → dn L 2 := fun h => done_of h (by decide)
  have u2 : dn L 2 → dn (L.setIfInBounds 5 true) 2 := fun h => by show (L.setIfInBounds 5 true)[2]?.getD false = true; rw [done_eq (by decide)]; exact h
  have v2 := hvs 2 (by decide)
  have d3 : dn (L.setIfInBounds 5 true) 3 → dn L 3 := fun h => done_of h (by decide)
  have u3 : dn L 3 → dn (L.setIfInBounds 5 true) 3 := fun h => by show (L.setIfInBounds 5 true)[3]?.getD false = true; rw [done_eq (by decide)]; exact h
  have v3 := hvs 3 (by decide)
  have d4 : dn (L.setIfInBounds 5 true) 4 → dn L 4 := fun h => done_of h (by decide)
  have u4 : dn L 4 → dn (L.setIfInBounds 5 true) 4 := fun h => by show (L.setIfInBounds 5 true)[4]?.getD false = true; rw [done_eq (by decide)]; exact h
  have v4 := hvs 4 (by decide)
  have d6 : dn (L.setIfInBounds 5 true) 6 → dn L 6 := fun h => done_of h (by decide)
  have u6 : dn L 6 → dn (L.setIfInBounds 5 true) 6 := fun h => by show (L.setIfInBounds 5 true)[6]?.getD false = true; rw [done_eq (by decide)]; exact h
  have v6 := hvs 6 (by decide)
  have d7 : dn (L.setIfInBounds 5 true) 7 → dn L 7 := fun h => done_of h (by decide)
  have u7 : dn L 7 → dn (L.setIfInBounds 5 true) 7 := fun h => by show (L.setIfInBounds 5 true)[7]?.getD false = true; rw [done_eq (by decide)]; exact h
  have v7 := hvs 7 (by decide)
  have z5 : dn (L.setIfInBounds 5 true) 5 := by
    show (L.setIfInBounds 5 true)[5]?.getD false = true
    rw [Array.getElem?_setIfInBounds_self_of_lt hs]; rfl
  refine ⟨g, fun q => u3 (h.c43 (d4 q)), fun q => u4 h4, fun q => u1 h1, fun q => z5, ?_, fun _ q => absurd z5 q, ?_, fun _ q => absurd z5 q, ?_, ?_, ?_, ?_, ?_⟩
  · intro q; rw [v0]; exact h.h0 (d0 q)
  · intro q; rw [v2]; exact h.h2 (d2 q)
  · intro q
    obtain ⟨b4, hb, _⟩ := h.h4 (d4 q)
    exact ⟨b4, by rw [v4]; exact hb, fun q5 => absurd z5 q5⟩
  · exact fun q q' => h.h13 (d1 q) (d3 q')
  · intro _; exact ⟨zs, by rw [hv]; exact ho, hf⟩
  · intro q; exact absurd (h.c65 (d6 q)) hn
  · intro q; rw [v7]; exact h.h7 (d7 q)

set_option maxRecDepth 20000 in
set_option maxHeartbeats 4000000 in
theorem Grown_impl (xs : List Fv) (x : Fv) (v : Value) (w : World) (L : Pow w) (h : FiSlc w v xs) (hf : ∀ x ∈ xs, FitsF x) (hs : xs.length ≤ 2000000) (hx : HeldF w x) (hfx : FitsF x) :
    Calls Tryz.prog 11 #[v, fiV x] w (GrownC (grown (fis xs) x.f) w) := by
  obtain ⟨i0, hi, hz0, hz1, hz2⟩ := info_parts infoFiC
  obtain ⟨W1, eW1⟩ : ∃ W1, w.alloc (.cells (fiL x).toArray 28) = W1 := ⟨_, rfl⟩
  have hB1 : Below w.heap.size w W1 := by rw [← eW1]; exact (Below.refl _ _).alloc (Nat.le_refl _) _
  have hl1 : LBlk W1 w.heap.size (fiL x) := by rw [← eW1]; exact LBlk.new w _ _
  have HT := Lib.hid (TreeOk_impl xs v W1 (L.on hB1) (h.on hB1) hf hs)
  have HM := Lib.hid (fun (W : World) (hb : Below w.heap.size w W) => mayStand_impl x xs.length W (L.on hb) (hx.on hb) hfx hs)
  have HC := Lib.hid (fun (W : World) (hb : Below w.heap.size w W) => treeCopy_impl xs v W (h.on hb) hf hs)
  have HF := Lib.hid (fun (W : World) (hb : Below w.heap.size w W) => figureCopy_impl x W (hx.on hb) (by have := hfx.2.2.2.1; omega) (by have := hfx.2.2.2.2.2.1; omega))
  have HG := Lib.hid (show grown (fis xs) x.f = if treeOk (fis xs) = true then (if mayStand x.f (fis xs).length = true then ((fis xs) ++ [x.f], true) else (fis xs, false)) else ([], false) from rfl)
  have HL := Lib.hid (fun (W : World) (g : Below W1.heap.size W1 W) => load_blk (P := Tryz.prog) (ty := 28) (hl1.below g) fi_wide)
  obtain ⟨a, cap, rfl, hnc, hcap, _⟩ := h.form
  obtain ⟨⟨au, cu, eu, _⟩, an, cn, en, _⟩ := heldF_form hx
  obtain ⟨⟨abv, tag, id, bs, ns⟩, u, un⟩ := x
  dsimp only at eu en HT HM HC HF HG
  subst eu en
  obtain ⟨n, hn⟩ : ∃ n, xs.length = n := ⟨_, rfl⟩
  obtain ⟨nb, hnb⟩ : ∃ nb, bs.length = nb := ⟨_, rfl⟩
  obtain ⟨nn, hnn⟩ : ∃ nn, ns.length = nn := ⟨_, rfl⟩
  rw [fis_len, hn] at HG
  rw [hn] at HT HM HC hnc hs ⊢
  rw [hnb, hnn] at HM HF eW1 hl1 HL ⊢
  have HX := Lib.hid (show HeldF w ⟨⟨abv, tag, id, bs, ns⟩, .slice au nb cu, .slice an nn cn⟩ by rw [← hnb, ← hnn]; exact hx)
  rw [fiV_is] at HM HF ⊢
  unfold fiL at eW1
  unfold fiL at HL
  dsimp only at HM HF eW1 HL ⊢
  have HW := Lib.hid eW1
  have HN := Lib.hid hn
  have hs' : (n : Int) ≤ 2000000 := by omega
  clear h hf hx hfx L hcap eW1 hn hnb hnn
  cases hq : treeOk (fis xs)
  · have HK := Lib.hid (show grown (fis xs) ⟨abv, tag, id, bs, ns⟩ = ([], false) by rw [HG.out, hq]; rfl)
    rw [hq] at HT
    clear hq
    go_enter Tryz.func11, Tryz.ntmps11
    go_wp2_with fail
    rw [HW.out]
    refine HT.out.mono ?_
    rintro e w2 ⟨rfl, g2⟩
    have hB2 := hB1.trans (g2.mono hB1.size)
    go_wp2_with fail
    go_ret2
    refine ⟨_, _, [], rfl, (ownG_lit w2 hB2.size), by rw [HK.out]; rfl, by rw [HK.out], hB2.alloc hB2.size _⟩
  · rw [hq] at HT
    cases hm : mayStand ⟨abv, tag, id, bs, ns⟩ n
    · have HK := Lib.hid (show grown (fis xs) ⟨abv, tag, id, bs, ns⟩ = (fis xs, false) by rw [HG.out, hq, hm]; rfl)
      rw [hm] at HM
      clear hq hm
      go_enter Tryz.func11, Tryz.ntmps11
      go_wp2_with fail
      rw [HW.out]
      refine HT.out.mono ?_
      rintro e w2 ⟨rfl, g2⟩
      have hB2 := hB1.trans (g2.mono hB1.size)
      have HL2 := Lib.hid (HL.out w2 g2)
      go_wp2_with ((with_reducible refine wp_load_at HL2.out ?_ ?_); exact And.intro rfl (And.intro rfl rfl))
      refine (HM.out w2 hB2).mono ?_
      rintro e w3 ⟨rfl, g3⟩
      have hB3 := hB2.trans (g3.mono hB2.size)
      go_wp2_with fail
      refine (HC.out w3 hB3).mono ?_
      rintro e w4 ⟨v4, ys, rfl, ho4, hf4, g4⟩
      have HO4 := Lib.hid (ho4.base hB3.size)
      obtain ⟨a4, c4, rfl⟩ := ho4.form
      have hB4 := hB3.trans (g4.mono hB3.size)
      obtain ⟨n4, hn4⟩ : ∃ n4, ys.length = n4 := ⟨_, rfl⟩
      rw [hn4] at HO4 ⊢
      clear ho4
      go_wp2_with fail
      go_ret2
      exact ⟨_, _, ys, rfl, HO4.out, by rw [HK.out]; exact hf4, by rw [HK.out], hB4⟩
    · have HK := Lib.hid (show grown (fis xs) ⟨abv, tag, id, bs, ns⟩ = (fis xs ++ [⟨abv, tag, id, bs, ns⟩], true) by rw [HG.out, hq, hm]; rfl)
      rw [hm] at HM
      clear hq hm
      go_enter Tryz.func11, Tryz.ntmps11
      go_wp2_with fail
      rw [HW.out]
      refine HT.out.mono ?_
      rintro e w2 ⟨rfl, g2⟩
      have hB2 := hB1.trans (g2.mono hB1.size)
      have HL2 := Lib.hid (HL.out w2 g2)
      go_wp2_with ((with_reducible refine wp_load_at HL2.out ?_ ?_); exact And.intro rfl (And.intro rfl rfl))
      refine (HM.out w2 hB2).mono ?_
      rintro e w3 ⟨rfl, g3⟩
      have hB3 := hB2.trans (g3.mono hB2.size)
      have g13 := g2.trans (g3.mono g2.size)
      go_upto_region 5 with fail
      refine region_joint (by kernel_rfl) (fun L vs W => ∃ ys y, GJ w3.heap.size w3 (.slice a n cap) ⟨⟨abv, tag, id, bs, ns⟩, .slice au nb cu, .slice an nn cn⟩ (fis xs) L vs W ys y) (none :: none :: none :: none :: some 6 :: some 7 :: none :: none :: none :: none :: none :: none :: none :: none :: none :: none :: none :: some 0 :: some 1 :: some 2 :: some 3 :: some 4 :: some 5 :: []) (by kernel_rfl) (by kernel_rfl) ?_ ?_ ?_
      · exact ⟨[], ⟨⟨abv, tag, id, bs, ns⟩, .slice au nb cu, .slice an nn cn⟩, ⟨⟨rfl, rfl, rfl, Nat.le_refl _, fun _ _ => rfl⟩, fun q => (none_done q).elim, fun q => (none_done q).elim, fun q => (none_done q).elim, fun q => (none_done q).elim, fun q => (none_done q).elim, fun q => (none_done q).elim, fun q => (none_done q).elim, fun q => (none_done q).elim, fun q => (none_done q).elim, fun q => (none_done q).elim, fun q => (none_done q).elim, fun q => (none_done q).elim, fun q => (none_done q).elim⟩⟩
      · intro i hi' L A W hBB hLs hn hb hst
        obtain ⟨ys, y, hJ⟩ := hBB
        have hi2 : i < 8 := hi'
        have hLs : L.size = 8 := hLs
        have hcase : i = 0 ∨ i = 1 ∨ i = 2 ∨ i = 3 ∨ i = 4 ∨ i = 5 ∨ i = 6 ∨ i = 7 := by omega
        have hnn : ¬ L[i]?.getD false = true := by rw [hn]; decide
        have hB := hB3.trans (hJ.b.mono hB3.size)
        clear hi' hi2
        rcases hcase with rfl | rfl | rfl | rfl | rfl | rfl | rfl | rfl
        · have s0 : A.tmps[0]?.getD undef = (.slice a n cap) := (hst 0 (by kernel_rfl)).trans rfl
          exact wpOp_of rfl rfl (wp_value (v := (.slice a n cap)) (W' := W) (by simp [execOp, Act.eval, s0, go_sem]) ⟨_, rfl, fun vs hvs hv => ⟨ys, y, hJ.move (Or.inl rfl) hvs (fun e => absurd e (by decide)) (fun _ => hv 17 rfl) (fun e => absurd e (by decide)) (fun e => absurd e (by decide)) (fun e => absurd e (by decide))⟩⟩)
        · have s17 : A.tmps[17]?.getD undef = (.slice a n cap) := (B10.valsOf_at (j := 0) (by kernel_rfl)).symm.trans (hJ.h0 (hb 0 (by kernel_rfl)))
          refine wpOp_of rfl rfl (wp_enter (f := 46) (args := #[(.slice a n cap)]) (by simp [execOp, Act.eval, s17, go_sem]) ?_)
          refine (HC.out W hB).mono ?_
          rintro e w' ⟨v', ys', rfl, ho', hf', g'⟩
          exact ⟨_, rfl, _, rfl, fun vs hvs hv => ⟨ys', y, hJ.tree (Nat.le_refl _) hnn g' ho' hf' hvs (hv 18 rfl)⟩⟩
        · have s3 : A.tmps[3]?.getD undef = .pointer (some ⟨w.heap.size, 0, none⟩) := (hst 3 (by kernel_rfl)).trans rfl
          have HLW := HL.out W (g13.trans (hJ.b.mono g13.size))
          refine wpOp_of rfl rfl (wp_value (v := fiV ⟨⟨abv, tag, id, bs, ns⟩, .slice au nb cu, .slice an nn cn⟩) (W' := W) (by exact exec_load rfl (by simpa [Act.eval] using s3) HLW) ⟨_, rfl, fun vs hvs hv => ⟨ys, y, hJ.move (Or.inr (Or.inl rfl)) hvs (fun e => absurd e (by decide)) (fun e => absurd e (by decide)) (fun _ => hv 19 rfl) (fun e => absurd e (by decide)) (fun e => absurd e (by decide))⟩⟩)
        · have s19 : A.tmps[19]?.getD undef = fiV ⟨⟨abv, tag, id, bs, ns⟩, .slice au nb cu, .slice an nn cn⟩ := (B10.valsOf_at (j := 2) (by kernel_rfl)).symm.trans (hJ.h2 (hb 2 (by kernel_rfl)))
          refine wpOp_of rfl rfl (wp_enter (f := 47) (args := #[fiV ⟨⟨abv, tag, id, bs, ns⟩, .slice au nb cu, .slice an nn cn⟩]) (by simp [execOp, Act.eval, s19, go_sem]) ?_)
          refine (HF.out W hB).mono ?_
          rintro e w' ⟨y', rfl, hy', ho', g'⟩
          exact ⟨_, rfl, _, rfl, fun vs hvs hv => ⟨ys, y', hJ.fig (Nat.le_refl _) hnn g' ho' hy' hvs (hv 20 rfl)⟩⟩
        · have n5 : ¬ dn L 5 := fun q => hnn (hJ.c54 q)
          obtain ⟨h3v, h3o, h3f⟩ := hJ.h3 (hb 3 (by kernel_rfl)) n5
          have s20 : A.tmps[20]?.getD undef = fiV y := (B10.valsOf_at (j := 3) (by kernel_rfl)).symm.trans h3v
          have hl4 := LBlk.new W (fiL y) 28
          have hb4 : Below W.heap.size W (W.alloc (.cells (fiL y).toArray 28)) := (Below.refl _ _).alloc (Nat.le_refl _) _
          refine wpOp_of rfl rfl (wp_value (v := .slice (some ⟨W.heap.size, 0, none⟩) 1 1) (W' := W.alloc (.cells (fiL y).toArray 28)) (by unfold fiV fiL at s20; simp [execOp, Act.eval, s20, go_sem]; rfl) ⟨_, rfl, fun vs hvs hv => ⟨ys, y, hJ.lay hnn (hb 3 (by kernel_rfl)) hb4 hl4 hvs (hv 21 rfl)⟩⟩)
        · have hd1 : dn L 1 := hb 1 (by kernel_rfl)
          have hd4 : dn L 4 := hb 4 (by kernel_rfl)
          obtain ⟨h1o, h1f⟩ := hJ.h1 hd1 hnn
          obtain ⟨h3v, h3o, h3f⟩ := hJ.h3 (hJ.c43 hd4) hnn
          obtain ⟨b4, h4v, h4l⟩ := hJ.h4 hd4
          have h4l := h4l hnn
          have hap := hJ.h13 hd1 (hJ.c43 hd4)
          obtain ⟨V1, s18, h1o⟩ : ∃ V, A.tmps[18]?.getD undef = V ∧ OwnG w3.heap.size V ys W := ⟨_, (B10.valsOf_at (j := 1) (by kernel_rfl)).symm, h1o⟩
          have s21 : A.tmps[21]?.getD undef = .slice (some ⟨b4, 0, none⟩) 1 1 := (B10.valsOf_at (j := 4) (by kernel_rfl)).symm.trans h4v
          have hyl : ys.length = n := by
            have := congrArg List.length h1f
            rw [fis_len, fis_len, HN.out] at this
            exact this
          obtain ⟨v', w', hr, hown', hgrow', _, _⟩ := run_append_own_at (P := Tryz.prog) W w3.heap.size 24 24 28 i0 _ 5 88 Tryz.underlying24 hi hz0 hz1 hz2 rfl (by decide) _ ys.length _ h1o.own ⟨b4, 0, none⟩ 1 1 (fiL y) rfl (news_ofC h4l) (fiL_ones h3o.held) (by unfold maxLen; omega) (by omega) hJ.b.size
          have hG := ownG_snocA rfl h1o h3o hap hown' hgrow'
          have hBG := hJ.b.grown hgrow' hJ.b.size (fun k hk => (World.ownsRow.lt h1o.own k hk).1)
          refine wpOp_of rfl rfl (wp_value (v := v') (W' := w') (exec_append rfl (by simpa [Act.eval] using s18) (by simpa [Act.eval] using s21) hr) ⟨_, rfl, fun vs hvs hv => ⟨ys, y, hJ.app hnn hd1 (by omega) hd4 hBG hG (by rw [fis_app, h1f, h3f]) hvs (hv 22 rfl)⟩⟩)
        · have hd5 : dn L 5 := hb 5 (by kernel_rfl)
          refine wpOp_of rfl rfl (wp_value (v := A.tmps[22]?.getD undef) (W' := W) (by simp [execOp, Act.eval, go_sem]) ⟨_, rfl, fun vs hvs hv => ⟨ys, y, hJ.move (Or.inr (Or.inr (Or.inl rfl))) hvs (fun _ => hd5) (fun e => absurd e (by decide)) (fun e => absurd e (by decide)) (fun _ => (hv 4 rfl).trans (B10.valsOf_at (j := 5) (by kernel_rfl)).symm) (fun e => absurd e (by decide))⟩⟩)
        · exact wpOp_of rfl rfl (wp_value (v := .bool true) (W' := W) (by simp [execOp, Act.eval, go_sem]) ⟨_, rfl, fun vs hvs hv => ⟨ys, y, hJ.move (Or.inr (Or.inr (Or.inr rfl))) hvs (fun e => absurd e (by decide)) (fun e => absurd e (by decide)) (fun e => absurd e (by decide)) (fun e => absurd e (by decide)) (fun _ => hv 5 rfl)⟩⟩)
      · intro L W vs hall hBB
        obtain ⟨ys, y, hJ⟩ := hBB
        obtain ⟨zs, h5o, h5f⟩ := hJ.h5 (hall 5 (by decide))
        have h6 := hJ.h6 (hall 6 (by decide))
        have h7 := hJ.h7 (hall 7 (by decide))
        obtain ⟨a5, c5, h5e⟩ := h5o.form
        rw [h5e] at h6 h5o
        have hBZ := hB3.trans (hJ.b.mono hB3.size)
        have HO5 := Lib.hid (h5o.base hB3.size)
        have HFZ := Lib.hid h5f
        clear hJ hall h5o h5e h5f HT HM HC HF HG HL HL2 HX
        unfold vl at h6 h7
        simp only [RI.mergeL]
        rw [h6, h7]
        go_wp2_with fail
        go_ret2
        exact ⟨_, _, zs, rfl, HO5.out, by rw [HK.out]; exact HFZ.out, by rw [HK.out], hBZ⟩

end Go.Proofs.YtgaggpnlimchkaaGreatDoor.B11

namespace Go.Proofs.YtgaggpnlimchkaaGreatDoor.B11
open Go.Proofs.YtgaggpnlimchkaaGreatDoor.P1 Go.Proofs.YtgaggpnlimchkaaGreatDoor.B1 Go.Proofs.YtgaggpnlimchkaaGreatDoor.B2 Go.Proofs.YtgaggpnlimchkaaGreatDoor.T1 Go.Proofs.YtgaggpnlimchkaaGreatDoor.BT Go.Proofs.YtgaggpnlimchkaaGreatDoor.P5 Go.Proofs.YtgaggpnlimchkaaGreatDoor.B5 Go.Proofs.YtgaggpnlimchkaaGreatDoor.P6 Go.Proofs.YtgaggpnlimchkaaGreatDoor.P9 Go.Proofs.YtgaggpnlimchkaaGreatDoor.B6 Go.Proofs.YtgaggpnlimchkaaGreatDoor.B9 Go.Proofs.YtgaggpnlimchkaaGreatDoor.D1 Go.Proofs.YtgaggpnlimchkaaGreatDoor.W8 Go.Proofs.YtgaggpnlimchkaaGreatDoor.RC Go.Proofs.YtgaggpnlimchkaaGreatDoor.RI Go.Proofs.YtgaggpnlimchkaaGreatDoor.P10 Go.Proofs.YtgaggpnlimchkaaGreatDoor.B10 Go.Proofs.YtgaggpnlimchkaaGreatDoor.P11
open Go.ChangeShapes Go.WideShapes Go.ChangeAt Go.RowKit
set_option linter.unusedVariables false

theorem fitsF_likeG {xs ys : List Fv} (hf : ∀ x ∈ xs, FitsF x) (he : fis ys = fis xs) {y : Fv} (hy : y ∈ ys) : FitsF y := by
  have h1 : y.f ∈ fis xs := by rw [← he]; exact List.mem_map.2 ⟨y, hy, rfl⟩
  obtain ⟨x, hx, e⟩ := List.mem_map.1 h1
  have := hf x hx
  unfold FitsF at this ⊢
  rw [e] at this
  exact this

theorem fitsF_lensG {xs : List Fv} (hf : ∀ x ∈ xs, FitsF x) : ∀ p ∈ fis xs, p.bs.length ≤ 2000000 ∧ p.ns.length ≤ 2000000 := fun p hp => by
  obtain ⟨x, hx, rfl⟩ := List.mem_map.1 hp
  obtain ⟨_, _, _, h1, _, h2, _⟩ := hf x hx
  exact ⟨by omega, by omega⟩

theorem standAll_snoc : ∀ (k : Nat) (t : List Fi) (f : Fi), standAll k (t ++ [f]) = (standAll k t && standOk f (k + t.length))
  | k, [], f => by simp [standAll]
  | k, x :: r, f => by
    show (standOk x k && standAll (k + 1) (r ++ [f])) = (standOk x k && standAll (k + 1) r && standOk f (k + (r.length + 1)))
    rw [standAll_snoc (k + 1) r f, Bool.and_assoc, show k + 1 + r.length = k + (r.length + 1) by omega]

theorem treeOk_snoc {t : List Fi} {f : Fi} (h : treeOk t = true) : treeOk (t ++ [f]) = mayStand f t.length := by
  unfold treeOk at h ⊢
  rw [Bool.and_eq_true] at h
  unfold mayStand
  rw [standAll_snoc, h.1, Nat.zero_add, Bool.true_and, Bool.and_comm, List.length_append]
  congr 1

theorem grown_isF (t : List Fi) (f : Fi) : grown t f = if treeOk t = true then (if treeOk (t ++ [f]) = true then (t ++ [f], true) else (t, false)) else ([], false) := by
  unfold grown
  by_cases h : treeOk t = true
  · rw [if_pos h, if_pos h, treeOk_snoc h]
  · rw [if_neg h, if_neg h]

/-- append behind a row of the call's own; where the new row lies. -/
theorem run_append_anyD {P : Program} (w : World) (base : Nat) (t ty e : TypeId) (i : TypeInfo) (z : Value) (size bytes : Nat) (ht : P.underlying t = some (.slice e)) (hi : P.info? e = some i) (hz : i.zero = some z)
    (hsize : i.size = size) (hby : i.bytes = bytes) (hzs : z.cells.size = size) (hsz : 0 < size)
    (v : Value) (n : Nat) (xs : List Value) (hown : w.ownsRow base e size v n xs)
    (ad : Option Addr) (m c : Nat) (news : List Value) (hl : news.length = m * size) (hnews : ∀ p, ad = some p → ∀ j u, news[j]? = some u → w.cell? (p.add j) = some u) (hnone : ad = none → m = 0) (h1 : ∀ u ∈ news, u.oneCell' = true)
    (h63 : n + m ≤ maxLen) (hbytes : (n + m) * bytes ≤ 140737488355328) (hbase : base ≤ w.heap.size) :
    ∃ v' w', (Builtin.append_ #[t, t] ty #[v, .slice ad m c]).run P w = .ok v' w' ∧ w'.ownsRow base e size v' (n + m) (xs ++ news) ∧ w.grownBy w' v.ownBlock ∧ (v'.ownBlock = v.ownBlock ∨ v'.ownBlock = some w.heap.size) := by
  cases ad with
  | some p =>
    obtain ⟨v', w', hr, h2, h3, _, h5⟩ := run_append_own_at (P := P) w base t ty e i z size bytes ht hi hz hsize hby hzs hsz v n xs hown p m c news hl (hnews p rfl) h1 h63 hbytes hbase
    exact ⟨v', w', hr, h2, h3, h5⟩
  | none =>
    have hm := hnone rfl
    subst hm
    have hn : news = [] := List.eq_nil_of_length_eq_zero (by simpa using hl)
    subst hn
    refine ⟨v, w, ?_, by rw [Nat.add_zero, List.append_nil]; exact hown, ⟨rfl, rfl, rfl, Nat.le_refl _, fun _ _ _ => rfl⟩, Or.inl rfl⟩
    rcases hown.2 with ⟨rfl, rfl⟩ | ⟨g, cap, cur, rfl, _, _, hnc, _⟩
    · simp [Builtin.append_, run_underlying ht, sizeOf, typeInfo, hi, Builtin.lenOf, Builtin.firstCells]
    · simp [Builtin.append_, run_underlying ht, sizeOf, typeInfo, hi, Builtin.lenOf, Builtin.firstCells, hnc, storeCells]

/-- What holds between the operations of the reference's region. -/
structure GS (W0 : World) (t : Value) (x : Fv) (R : List Value) (n : Nat) (F : List Fi) (L : Array Bool) (vs : List Value) (W : World) : Prop where
  b : Below W0.heap.size W0 W
  c52 : dn L 5 → dn L 2
  c65 : dn L 6 → dn L 5
  c76 : dn L 7 → dn L 6
  h0 : dn L 0 → ¬ dn L 2 → W.ownsRow W0.heap.size 28 5 (vl vs 0) 0 []
  h1 : dn L 1 → vl vs 1 = t
  h2 : dn L 2 → ¬ dn L 5 → W.ownsRow W0.heap.size 28 5 (vl vs 2) n R
  h3 : dn L 3 → vl vs 3 = fiV x
  h4 : dn L 4 → ¬ dn L 5 → ∃ b4, vl vs 4 = .slice (some ⟨b4, 0, none⟩) 1 1 ∧ LBlk W b4 (fiL x) ∧ (dn L 0 → ¬ dn L 2 → (vl vs 0).ownBlock ≠ some b4) ∧ (dn L 2 → (vl vs 2).ownBlock ≠ some b4)
  h5 : dn L 5 → W.ownsRow W0.heap.size 28 5 (vl vs 5) (n + 1) (R ++ fiL x)
  h6 : dn L 6 → ∃ ys, OwnG W0.heap.size (vl vs 6) ys W ∧ fis ys = F
  h7 : dn L 7 → vl vs 7 = vl vs 6

theorem GS.on {W0 : World} {t : Value} {x : Fv} {R : List Value} {n : Nat} {F : List Fi} {L : Array Bool} {vs : List Value} {W W' : World} (h : GS W0 t x R n F L vs W) (g : Below W.heap.size W W') : GS W0 t x R n F L vs W' := by
  refine ⟨h.b.trans (g.mono h.b.size), h.c52, h.c65, h.c76, fun q q2 => own_below (h.h0 q q2) g, h.h1, fun q q2 => own_below (h.h2 q q2) g, h.h3, fun q q5 => ?_, fun q => own_below (h.h5 q) g, fun q => ?_, h.h7⟩
  · obtain ⟨b4, e, hl, r⟩ := h.h4 q q5
    exact ⟨b4, e, hl.below g, r⟩
  · obtain ⟨ys, ho, hf⟩ := h.h6 q
    exact ⟨ys, ho.on g, hf⟩

theorem dn_iff {L : Array Bool} {i j : Nat} (hj : j ≠ i) : dn (L.setIfInBounds i true) j ↔ dn L j := by
  show (L.setIfInBounds i true)[j]?.getD false = true ↔ L[j]?.getD false = true
  rw [done_eq hj]

theorem dn_self {L : Array Bool} {i : Nat} (h : i < L.size) : dn (L.setIfInBounds i true) i := by
  show (L.setIfInBounds i true)[i]?.getD false = true
  rw [Array.getElem?_setIfInBounds_self_of_lt h]; rfl

theorem GS.set {W0 : World} {t : Value} {x : Fv} {R : List Value} {n : Nat} {F : List Fi} {L : Array Bool} {vs vs' : List Value} {W : World} (h : GS W0 t x R n F L vs W) {i : Nat} (hi : i = 0 ∨ i = 1 ∨ i = 3 ∨ i = 4 ∨ i = 6 ∨ i = 7) (hn : ¬ dn L i) (hvs : ∀ j, j ≠ i → vl vs' j = vl vs j)
    (q0 : i = 0 → W.ownsRow W0.heap.size 28 5 (vl vs' 0) 0 [] ∧ ∀ b4, dn L 4 → ¬ dn L 5 → vl vs 4 = .slice (some ⟨b4, 0, none⟩) 1 1 → (vl vs' 0).ownBlock ≠ some b4)
    (q1 : i = 1 → vl vs' 1 = t) (q3 : i = 3 → vl vs' 3 = fiV x)
    (q4 : i = 4 → ∃ b4, vl vs' 4 = .slice (some ⟨b4, 0, none⟩) 1 1 ∧ LBlk W b4 (fiL x) ∧ (dn L 0 → ¬ dn L 2 → (vl vs 0).ownBlock ≠ some b4) ∧ (dn L 2 → ¬ dn L 5 → (vl vs 2).ownBlock ≠ some b4))
    (c6 : i = 6 → dn L 5) (q6 : i = 6 → ∃ ys, OwnG W0.heap.size (vl vs' 6) ys W ∧ fis ys = F) (c7 : i = 7 → dn L 6) (q7 : i = 7 → vl vs' 7 = vl vs 6) : GS W0 t x R n F (L.setIfInBounds i true) vs' W := by
  have D : ∀ j, j ≠ i → (dn (L.setIfInBounds i true) j ↔ dn L j) := fun j hj => dn_iff hj
  have D2 := D 2 (by omega)
  have D5 := D 5 (by omega)
  have v2 := hvs 2 (by omega)
  have v5 := hvs 5 (by omega)
  refine ⟨h.b, fun q => D2.2 (h.c52 (D5.1 q)), fun q => ?_, fun q => ?_, fun q q2 => ?_, fun q => ?_, fun q q5 => ?_, fun q => ?_, fun q q5 => ?_, fun q => ?_, fun q => ?_, fun q => ?_⟩
  · by_cases e : i = 6
    · exact D5.2 (c6 e)
    · exact D5.2 (h.c65 ((D 6 (Ne.symm e)).1 q))
  · by_cases e : i = 7
    · exact (D 6 (by omega)).2 (c7 e)
    · have h7 := h.c76 ((D 7 (Ne.symm e)).1 q)
      by_cases e6 : i = 6
      · subst e6; exact absurd h7 hn
      · exact (D 6 (Ne.symm e6)).2 h7
  · by_cases e : i = 0
    · exact (q0 e).1
    · rw [hvs 0 (Ne.symm e)]; exact h.h0 ((D 0 (Ne.symm e)).1 q) (fun z => q2 (D2.2 z))
  · by_cases e : i = 1
    · exact q1 e
    · rw [hvs 1 (Ne.symm e)]; exact h.h1 ((D 1 (Ne.symm e)).1 q)
  · rw [v2]; exact h.h2 (D2.1 q) (fun z => q5 (D5.2 z))
  · by_cases e : i = 3
    · exact q3 e
    · rw [hvs 3 (Ne.symm e)]; exact h.h3 ((D 3 (Ne.symm e)).1 q)
  · have n5 : ¬ dn L 5 := fun z => q5 (D5.2 z)
    by_cases e : i = 4
    · obtain ⟨b4, e4, hl, r0, r2⟩ := q4 e
      refine ⟨b4, e4, hl, fun z z2 => ?_, fun z => ?_⟩
      · rw [hvs 0 (by omega)]; exact r0 ((D 0 (by omega)).1 z) (fun y => z2 (D2.2 y))
      · rw [v2]; exact r2 (D2.1 z) n5
    · obtain ⟨b4, e4, hl, r0, r2⟩ := h.h4 ((D 4 (Ne.symm e)).1 q) n5
      refine ⟨b4, by rw [hvs 4 (Ne.symm e)]; exact e4, hl, fun z z2 => ?_, fun z => by rw [v2]; exact r2 (D2.1 z)⟩
      by_cases e0 : i = 0
      · exact (q0 e0).2 b4 ((D 4 (Ne.symm e)).1 q) n5 e4
      · rw [hvs 0 (Ne.symm e0)]; exact r0 ((D 0 (Ne.symm e0)).1 z) (fun y => z2 (D2.2 y))
  · rw [v5]; exact h.h5 (D5.1 q)
  · by_cases e : i = 6
    · exact q6 e
    · rw [hvs 6 (Ne.symm e)]; exact h.h6 ((D 6 (Ne.symm e)).1 q)
  · by_cases e : i = 7
    · rw [hvs 6 (by omega)]; exact q7 e
    · have h7' := (D 7 (Ne.symm e)).1 q
      by_cases e6 : i = 6
      · subst e6; exact absurd (h.c76 h7') hn
      · rw [hvs 7 (Ne.symm e), hvs 6 (Ne.symm e6)]; exact h.h7 h7'

/-- append([]Figure{}, t...). -/
theorem GS.app2 {W0 : World} {t : Value} {x : Fv} {R : List Value} {n : Nat} {F : List Fi} {L : Array Bool} {vs vs' : List Value} {W W' : World} (h : GS W0 t x R n F L vs W) (hn : ¬ dn L 2) (h0 : dn L 0) (hs : 2 < L.size) (hvs : ∀ j, j ≠ 2 → vl vs' j = vl vs j)
    (ho : W'.ownsRow W0.heap.size 28 5 (vl vs' 2) n R) (hg : W.grownBy W' (vl vs 0).ownBlock) (hw : (vl vs' 2).ownBlock = (vl vs 0).ownBlock ∨ (vl vs' 2).ownBlock = some W.heap.size) : GS W0 t x R n F (L.setIfInBounds 2 true) vs' W' := by
  have D : ∀ j, j ≠ 2 → (dn (L.setIfInBounds 2 true) j ↔ dn L j) := fun j hj => dn_iff hj
  have z2 := dn_self hs
  have n5 : ¬ dn L 5 := fun q => hn (h.c52 q)
  have n6 : ¬ dn L 6 := fun q => n5 (h.c65 q)
  have n7 : ¬ dn L 7 := fun q => n6 (h.c76 q)
  have hrow := h.h0 h0 hn
  have hb := h.b.grown hg h.b.size (fun k hk => (World.ownsRow.lt hrow k hk).1)
  refine ⟨hb, fun _ => z2, fun q => absurd ((D 6 (by decide)).1 q) n6, fun q => absurd ((D 7 (by decide)).1 q) n7, fun _ q => absurd z2 q, fun q => ?_, fun _ _ => ho, fun q => ?_, fun q q5 => ?_, fun q => absurd ((D 5 (by decide)).1 q) n5, fun q => absurd ((D 6 (by decide)).1 q) n6, fun q => absurd ((D 7 (by decide)).1 q) n7⟩
  · rw [hvs 1 (by decide)]; exact h.h1 ((D 1 (by decide)).1 q)
  · rw [hvs 3 (by decide)]; exact h.h3 ((D 3 (by decide)).1 q)
  · obtain ⟨b4, e4, hl, r0, _⟩ := h.h4 ((D 4 (by decide)).1 q) n5
    have hne := r0 h0 hn
    refine ⟨b4, by rw [hvs 4 (by decide)]; exact e4, lblk_grownC hl hg (fun e => hne e.symm), fun _ q => absurd z2 q, fun _ => ?_⟩
    rcases hw with e | e
    · rw [e]; exact hne
    · rw [e]
      intro e'
      have h1 := hl.1
      have : W.heap.size = b4 := Option.some.inj e'
      omega

/-- append(.., f). -/
theorem GS.app5 {W0 : World} {t : Value} {x : Fv} {R : List Value} {n : Nat} {F : List Fi} {L : Array Bool} {vs vs' : List Value} {W W' : World} (h : GS W0 t x R n F L vs W) (hn : ¬ dn L 5) (h2 : dn L 2) (hs : 5 < L.size) (hvs : ∀ j, j ≠ 5 → vl vs' j = vl vs j)
    (ho : W'.ownsRow W0.heap.size 28 5 (vl vs' 5) (n + 1) (R ++ fiL x)) (hg : W.grownBy W' (vl vs 2).ownBlock) : GS W0 t x R n F (L.setIfInBounds 5 true) vs' W' := by
  have D : ∀ j, j ≠ 5 → (dn (L.setIfInBounds 5 true) j ↔ dn L j) := fun j hj => dn_iff hj
  have z5 := dn_self hs
  have n6 : ¬ dn L 6 := fun q => hn (h.c65 q)
  have n7 : ¬ dn L 7 := fun q => n6 (h.c76 q)
  have hrow := h.h2 h2 hn
  have hb := h.b.grown hg h.b.size (fun k hk => (World.ownsRow.lt hrow k hk).1)
  have z2 : dn (L.setIfInBounds 5 true) 2 := (D 2 (by decide)).2 h2
  refine ⟨hb, fun _ => z2, fun _ => z5, fun q => absurd ((D 7 (by decide)).1 q) n7, fun _ q => absurd z2 q, fun q => ?_, fun _ q => absurd z5 q, fun q => ?_, fun _ q => absurd z5 q, fun _ => ho, fun q => absurd ((D 6 (by decide)).1 q) n6, fun q => absurd ((D 7 (by decide)).1 q) n7⟩
  · rw [hvs 1 (by decide)]; exact h.h1 ((D 1 (by decide)).1 q)
  · rw [hvs 3 (by decide)]; exact h.h3 ((D 3 (by decide)).1 q)

theorem GS.slot {W0 : World} {t : Value} {x : Fv} {R : List Value} {n : Nat} {F : List Fi} {L : Array Bool} {ops : Array Oper} {A : Act} {W : World} (h : GS W0 t x R n F L (B10.valsOf ops A) W) {j d : Nat} (hd : dstOf ops j = some d) : A.tmps[d]?.getD undef = vl (B10.valsOf ops A) j := (B10.valsOf_at hd).symm

theorem fiSlc_row {W : World} {B : Nat} {v : Value} {zs : List Fv} (h : W.ownsRow B 28 5 v zs.length (fiRs zs).flatten) (hh : ∀ z ∈ zs, HeldF W z) : FiSlc W v zs := by
  have : RC.Own 28 5 W v B (fiRs zs) := ⟨by rw [fiRs_len]; exact h, fiRs_five zs⟩
  exact ⟨this.val.slc, hh⟩

set_option maxRecDepth 20000 in
set_option maxHeartbeats 4000000 in
theorem Grown_spec (xs : List Fv) (x : Fv) (v : Value) (w : World) (h : FiSlc w v xs) (hf : ∀ x ∈ xs, FitsF x) (hs : xs.length ≤ 1900000) (hx : HeldF w x) (hfx : FitsF x) :
    Calls Tryz.prog 14 #[v, fiV x] w (GrownC (grown (fis xs) x.f) w) := by
  obtain ⟨i0, hi, hz0, hz1, hz2⟩ := info_parts infoFiC
  obtain ⟨W1, eW1⟩ : ∃ W1, w.alloc (.cells (fiL x).toArray 28) = W1 := ⟨_, rfl⟩
  have hB1 : Below w.heap.size w W1 := by rw [← eW1]; exact (Below.refl _ _).alloc (Nat.le_refl _) _
  have hl1 : LBlk W1 w.heap.size (fiL x) := by rw [← eW1]; exact LBlk.new w _ _
  have HT := Lib.hid (TreeOk_spec xs v W1 (h.on hB1) hf (by omega))
  have HC := Lib.hid (fun (W : World) (hb : Below w.heap.size w W) => l11Copy_spec xs v W (h.on hb) hf (by omega))
  have hf2 : ∀ z ∈ xs ++ [x], FitsF z := fun z hz => by
    rcases List.mem_append.1 hz with hz | hz
    · exact hf z hz
    · obtain rfl : z = x := by simpa using hz
      exact hfx
  have HC2 := Lib.hid (fun (W : World) (v' : Value) (hv : FiSlc W v' (xs ++ [x])) => l11Copy_spec (xs ++ [x]) v' W hv hf2 (by rw [List.length_append]; show xs.length + 1 ≤ _; omega))
  have HT2 := Lib.hid (fun (W : World) (v' : Value) (ys : List Fv) (hv : FiSlc W v' ys) (hy : fis ys = fis xs ++ [x.f]) => by
    have hy' : fis ys = fis (xs ++ [x]) := hy.trans (fis_app xs x).symm
    have := TreeOk_spec ys v' W hv (fun y hm => fitsF_likeG hf2 hy' hm) (by
      have := congrArg List.length hy'
      rw [fis_len, fis_len, List.length_append] at this
      rw [this]
      show xs.length + 1 ≤ _
      omega)
    rw [hy] at this
    exact this)
  have HH := Lib.hid (fun (W : World) (hb : Below w.heap.size w W) (z : Fv) (hz : z ∈ xs ++ [x]) => (show HeldF W z from by
    rcases List.mem_append.1 hz with hz | hz
    · exact (h.2 z hz).on hb
    · obtain rfl : z = x := by simpa using hz
      exact hx.on hb))
  have HG := Lib.hid (grown_isF (fis xs) x.f)
  have HL := Lib.hid (fun (W : World) (g : Below W1.heap.size W1 W) => load_blk (P := Tryz.prog) (ty := 28) (hl1.below g) fi_wide)
  have HON := Lib.hid (fun z hz => List.all_eq_true.1 (show (fiRs xs).flatten.all (·.oneCell') = true from by
    rw [List.all_eq_true]
    intro u hu
    obtain ⟨r, hr, hur⟩ := List.mem_flatten.1 hu
    unfold fiRs at hr
    obtain ⟨y, hy, rfl⟩ := List.mem_map.1 hr
    exact fiL_ones (h.2 y hy) u hur) z hz)
  have HOX := Lib.hid (fiL_ones hx)
  have HR2 := Lib.hid (show (fiRs (xs ++ [x])).flatten = (fiRs xs).flatten ++ fiL x from fiRs_snoc xs x)
  obtain ⟨a, cap, rfl, hnc, hcap, _⟩ := h.form
  have HNW := Lib.hid (fun (W : World) (hb : Below w.heap.size w W) => fiSlc_newsC (h.on hb))
  obtain ⟨⟨au, cu, eu, _⟩, an, cn, en, _⟩ := heldF_form hx
  obtain ⟨⟨abv, tag, id, bs, ns⟩, u, un⟩ := x
  dsimp only at eu en HT2 HG
  subst eu en
  obtain ⟨n, hn⟩ : ∃ n, xs.length = n := ⟨_, rfl⟩
  have HFL := Lib.hid (show (fiRs xs).flatten.length = n * 5 by rw [← hn]; exact fiRs_flenG xs)
  obtain ⟨nb, hnb⟩ : ∃ nb, bs.length = nb := ⟨_, rfl⟩
  obtain ⟨nn, hnn⟩ : ∃ nn, ns.length = nn := ⟨_, rfl⟩
  have HN := Lib.hid hn
  rw [hn] at HT HC HNW hnc hs ⊢
  rw [hnb, hnn] at HC2 HH HOX HR2 HL eW1 ⊢
  rw [fiV_is]
  unfold fiL at eW1
  unfold fiL at HL
  dsimp only at eW1 HL ⊢
  have HW := Lib.hid eW1
  have hs' : (n : Int) ≤ 1900000 := by omega
  clear h hf hx hfx hcap eW1 hnb hnn hl1 hf2 hn
  cases hq : treeOk (fis xs)
  · have HK := Lib.hid (show grown (fis xs) ⟨abv, tag, id, bs, ns⟩ = ([], false) by rw [HG.out, hq]; rfl)
    rw [hq] at HT
    clear hq
    go_enter Tryz.func14, Tryz.ntmps14
    go_wp2_with fail
    rw [HW.out]
    refine HT.out.mono ?_
    rintro e w2 ⟨rfl, g2⟩
    have hB2 := hB1.trans (g2.mono hB1.size)
    go_wp2_with fail
    go_ret2
    refine ⟨_, _, [], rfl, (ownG_lit w2 hB2.size), by rw [HK.out]; rfl, by rw [HK.out], hB2.alloc hB2.size _⟩
  · have HG2 := Lib.hid (show grown (fis xs) ⟨abv, tag, id, bs, ns⟩ = if treeOk (fis xs ++ [⟨abv, tag, id, bs, ns⟩]) = true then (fis xs ++ [⟨abv, tag, id, bs, ns⟩], true) else (fis xs, false) by rw [HG.out, if_pos hq])
    rw [hq] at HT
    clear hq HG
    go_enter Tryz.func14, Tryz.ntmps14
    go_wp2_with fail
    rw [HW.out]
    refine HT.out.mono ?_
    rintro e w2 ⟨rfl, g2⟩
    have hB2 := hB1.trans (g2.mono hB1.size)
    go_upto_region 3 with fail
    refine region_joint (by kernel_rfl) (fun L vs W => GS w2 (.slice a n cap) ⟨⟨abv, tag, id, bs, ns⟩, .slice au nb cu, .slice an nn cn⟩ (fiRs xs).flatten n (fis xs ++ [⟨abv, tag, id, bs, ns⟩]) L vs W) (none :: none :: none :: none :: none :: none :: some 7 :: none :: none :: none :: none :: some 0 :: some 1 :: some 2 :: some 3 :: some 4 :: some 5 :: some 6 :: none :: none :: none :: none :: none :: none :: []) (by kernel_rfl) (by kernel_rfl) ?_ ?_ ?_
    · exact ⟨⟨rfl, rfl, rfl, Nat.le_refl _, fun _ _ => rfl⟩, fun q => (none_done q).elim, fun q => (none_done q).elim, fun q => (none_done q).elim, fun q => (none_done q).elim, fun q => (none_done q).elim, fun q => (none_done q).elim, fun q => (none_done q).elim, fun q => (none_done q).elim, fun q => (none_done q).elim, fun q => (none_done q).elim, fun q => (none_done q).elim⟩
    · intro i hi' L A W hJ hLs hn hb hst
      have hi2 : i < 8 := hi'
      have hLs : L.size = 8 := hLs
      have hcase : i = 0 ∨ i = 1 ∨ i = 2 ∨ i = 3 ∨ i = 4 ∨ i = 5 ∨ i = 6 ∨ i = 7 := by omega
      have hnn : ¬ L[i]?.getD false = true := by rw [hn]; decide
      have hB := hB2.trans (hJ.b.mono hB2.size)
      clear hi' hi2
      rcases hcase with rfl | rfl | rfl | rfl | rfl | rfl | rfl | rfl
      · have hb4 : Below W.heap.size W (W.alloc (.cells #[] 28)) := (Below.refl _ _).alloc (Nat.le_refl _) _
        refine wpOp_of rfl rfl (wp_value (v := .slice (some ⟨W.heap.size, 0, none⟩) 0 0) (W' := W.alloc (.cells #[] 28)) (by simp [execOp, Act.eval, go_sem]) ⟨_, rfl, fun vs hvs hv => (hJ.on hb4).set (i := 0) (Or.inl rfl) hnn hvs (fun _ => ⟨by rw [show vl vs 0 = _ from hv 11 rfl]; exact World.ownsRow_lit W #[] 0 hJ.b.size (by decide) rfl, fun b4 d4 n5 e4 => ?_⟩) (fun e => absurd e (by decide)) (fun e => absurd e (by decide)) (fun e => absurd e (by decide)) (fun e => absurd e (by decide)) (fun e => absurd e (by decide)) (fun e => absurd e (by decide)) (fun e => absurd e (by decide))⟩)
        obtain ⟨b5, e5, hl5, _⟩ := hJ.h4 d4 n5
        rw [e4] at e5
        rw [show vl vs 0 = _ from hv 11 rfl]
        intro e
        have h1 := hl5.1
        injection e5 with e5 _ _
        injection e5 with e5
        injection e5 with e5 _ _
        have : W.heap.size = b4 := Option.some.inj e
        omega
      · have s0 : A.tmps[0]?.getD undef = (.slice a n cap) := (hst 0 (by kernel_rfl)).trans rfl
        exact wpOp_of rfl rfl (wp_value (v := (.slice a n cap)) (W' := W) (by simp [execOp, Act.eval, s0, go_sem]) ⟨_, rfl, fun vs hvs hv => hJ.set (i := 1) (Or.inr (Or.inl rfl)) hnn hvs (fun e => absurd e (by decide)) (fun _ => hv 12 rfl) (fun e => absurd e (by decide)) (fun e => absurd e (by decide)) (fun e => absurd e (by decide)) (fun e => absurd e (by decide)) (fun e => absurd e (by decide)) (fun e => absurd e (by decide))⟩)
      · have hd0 : dn L 0 := hb 0 (by kernel_rfl)
        have hd1 : dn L 1 := hb 1 (by kernel_rfl)
        have s11 := hJ.slot (j := 0) (d := 11) (by kernel_rfl)
        have s12 := (hJ.slot (j := 1) (d := 12) (by kernel_rfl)).trans (hJ.h1 hd1)
        obtain ⟨v', w', hr, hown', hgrow', hob⟩ := run_append_anyD (P := Tryz.prog) W w2.heap.size 24 24 28 i0 _ 5 88 Tryz.underlying24 hi hz0 hz1 hz2 rfl (by decide) _ 0 _ (hJ.h0 hd0 hnn) a n cap (fiRs xs).flatten HFL.out (HNW.out W hB).1 (HNW.out W hB).2 HON.out (by unfold maxLen; omega) (by omega) hJ.b.size
        rw [Nat.zero_add, List.nil_append] at hown'
        exact wpOp_of rfl rfl (wp_value (v := v') (W' := w') (exec_append rfl (by simpa [Act.eval] using s11) (by simpa [Act.eval] using s12) hr) ⟨_, rfl, fun vs hvs hv => hJ.app2 hnn hd0 (by omega) hvs (by rw [show vl vs 2 = _ from hv 13 rfl]; exact hown') hgrow' (by rw [show vl vs 2 = _ from hv 13 rfl]; exact hob)⟩)
      · have s3 : A.tmps[3]?.getD undef = .pointer (some ⟨w.heap.size, 0, none⟩) := (hst 3 (by kernel_rfl)).trans rfl
        have HLW := HL.out W (g2.trans (hJ.b.mono g2.size))
        exact wpOp_of rfl rfl (wp_value (v := fiV ⟨⟨abv, tag, id, bs, ns⟩, .slice au nb cu, .slice an nn cn⟩) (W' := W) (by exact exec_load rfl (by simpa [Act.eval] using s3) HLW) ⟨_, rfl, fun vs hvs hv => hJ.set (i := 3) (Or.inr (Or.inr (Or.inl rfl))) hnn hvs (fun e => absurd e (by decide)) (fun e => absurd e (by decide)) (fun _ => hv 14 rfl) (fun e => absurd e (by decide)) (fun e => absurd e (by decide)) (fun e => absurd e (by decide)) (fun e => absurd e (by decide)) (fun e => absurd e (by decide))⟩)
      · have s14 : A.tmps[14]?.getD undef = fiV ⟨⟨abv, tag, id, bs, ns⟩, .slice au nb cu, .slice an nn cn⟩ := (hJ.slot (j := 3) (d := 14) (by kernel_rfl)).trans (hJ.h3 (hb 3 (by kernel_rfl)))
        have hl4 := LBlk.new W (fiL ⟨⟨abv, tag, id, bs, ns⟩, .slice au nb cu, .slice an nn cn⟩) 28
        have hb4 : Below W.heap.size W (W.alloc (.cells (fiL ⟨⟨abv, tag, id, bs, ns⟩, .slice au nb cu, .slice an nn cn⟩).toArray 28)) := (Below.refl _ _).alloc (Nat.le_refl _) _
        exact wpOp_of rfl rfl (wp_value (v := .slice (some ⟨W.heap.size, 0, none⟩) 1 1) (W' := W.alloc (.cells (fiL ⟨⟨abv, tag, id, bs, ns⟩, .slice au nb cu, .slice an nn cn⟩).toArray 28)) (by unfold fiV fiL at s14; simp [execOp, Act.eval, s14, go_sem]; rfl) ⟨_, rfl, fun vs hvs hv => (hJ.on hb4).set (i := 4) (Or.inr (Or.inr (Or.inr (Or.inl rfl)))) hnn hvs (fun e => absurd e (by decide)) (fun e => absurd e (by decide)) (fun e => absurd e (by decide)) (fun _ => ⟨W.heap.size, hv 15 rfl, hl4, fun d0 n2 => row_freshC (hJ.h0 d0 n2) (Nat.le_refl _), fun d2 n5 => row_freshC (hJ.h2 d2 n5) (Nat.le_refl _)⟩) (fun e => absurd e (by decide)) (fun e => absurd e (by decide)) (fun e => absurd e (by decide)) (fun e => absurd e (by decide))⟩)
      · have hd2 : dn L 2 := hb 2 (by kernel_rfl)
        have hd4 : dn L 4 := hb 4 (by kernel_rfl)
        obtain ⟨b4, h4v, h4l, _⟩ := hJ.h4 hd4 hnn
        have s13 := hJ.slot (j := 2) (d := 13) (by kernel_rfl)
        have s15 := (hJ.slot (j := 4) (d := 15) (by kernel_rfl)).trans h4v
        obtain ⟨v', w', hr, hown', hgrow', _, _⟩ := run_append_own_at (P := Tryz.prog) W w2.heap.size 24 24 28 i0 _ 5 88 Tryz.underlying24 hi hz0 hz1 hz2 rfl (by decide) _ n _ (hJ.h2 hd2 hnn) ⟨b4, 0, none⟩ 1 1 _ rfl (news_ofC h4l) HOX.out (by unfold maxLen; omega) (by omega) hJ.b.size
        exact wpOp_of rfl rfl (wp_value (v := v') (W' := w') (exec_append rfl (by simpa [Act.eval] using s13) (by simpa [Act.eval] using s15) hr) ⟨_, rfl, fun vs hvs hv => hJ.app5 hnn hd2 (by omega) hvs (by rw [show vl vs 5 = _ from hv 16 rfl]; exact hown') hgrow'⟩)
      · have hd5 : dn L 5 := hb 5 (by kernel_rfl)
        have s16 := hJ.slot (j := 5) (d := 16) (by kernel_rfl)
        have hsl := fiSlc_row (W := W) (B := w2.heap.size) (v := vl _ 5) (zs := xs ++ [⟨⟨abv, tag, id, bs, ns⟩, .slice au nb cu, .slice an nn cn⟩]) (by rw [HR2.out, List.length_append, HN.out]; exact hJ.h5 hd5) (HH.out W hB)
        refine wpOp_of rfl rfl (wp_enter (f := 52) (args := #[_]) (by simp [execOp, Act.eval, s16, go_sem]; rfl) ?_)
        refine (HC2.out W _ hsl).mono ?_
        rintro e w' ⟨v', ys', rfl, ho', hf', g'⟩
        exact ⟨_, rfl, _, rfl, fun vs hvs hv => (hJ.on g').set (i := 6) (Or.inr (Or.inr (Or.inr (Or.inr (Or.inl rfl))))) hnn hvs (fun e => absurd e (by decide)) (fun e => absurd e (by decide)) (fun e => absurd e (by decide)) (fun e => absurd e (by decide)) (fun _ => hd5) (fun _ => ⟨ys', by rw [show vl vs 6 = _ from hv 17 rfl]; exact ho'.base hJ.b.size, hf'.trans (fis_app _ _)⟩) (fun e => absurd e (by decide)) (fun e => absurd e (by decide))⟩
      · have hd6 : dn L 6 := hb 6 (by kernel_rfl)
        exact wpOp_of rfl rfl (wp_value (v := A.tmps[17]?.getD undef) (W' := W) (by simp [execOp, Act.eval, go_sem]) ⟨_, rfl, fun vs hvs hv => hJ.set (i := 7) (Or.inr (Or.inr (Or.inr (Or.inr (Or.inr rfl))))) hnn hvs (fun e => absurd e (by decide)) (fun e => absurd e (by decide)) (fun e => absurd e (by decide)) (fun e => absurd e (by decide)) (fun e => absurd e (by decide)) (fun e => absurd e (by decide)) (fun _ => hd6) (fun _ => (hv 6 rfl).trans (hJ.slot (j := 6) (d := 17) (by kernel_rfl)))⟩)
    · intro L W vs hall hJ
      obtain ⟨ys, h6o, h6f⟩ := hJ.h6 (hall 6 (by decide))
      have h7 := hJ.h7 (hall 7 (by decide))
      obtain ⟨a5, c5, h5e⟩ := h6o.form
      rw [h5e] at h7 h6o
      have hB := hB2.trans (hJ.b.mono hB2.size)
      have HO5 := Lib.hid (h6o.base hB2.size)
      have HFZ := Lib.hid h6f
      have HTW := Lib.hid (HT2.out W _ ys h6o.slc h6f)
      obtain ⟨N5, hN5⟩ : ∃ N5, ys.length = N5 := ⟨_, rfl⟩
      rw [hN5] at h7 HO5 HTW
      clear hJ hall h6o h5e h6f HT HC2 HT2 HH HL HNW HON HOX HR2 HFL
      unfold vl at h7
      simp only [RI.mergeL]
      rw [h7]
      cases hq2 : treeOk (fis xs ++ [⟨abv, tag, id, bs, ns⟩])
      · have HK := Lib.hid (show grown (fis xs) ⟨abv, tag, id, bs, ns⟩ = (fis xs, false) by rw [HG2.out, hq2]; rfl)
        rw [hq2] at HTW
        clear hq2
        go_wp2_with fail
        refine HTW.out.mono ?_
        rintro e w5 ⟨rfl, g5⟩
        have hB5 := hB.trans (g5.mono hB.size)
        go_wp2_with fail
        refine (HC.out w5 hB5).mono ?_
        rintro e w6 ⟨v6, zs, rfl, ho6, hf6, g6⟩
        have hB6 := hB5.trans (g6.mono hB5.size)
        have HO6 := Lib.hid (ho6.base hB5.size)
        obtain ⟨a6, c6, rfl⟩ := ho6.form
        obtain ⟨n6, hn6⟩ : ∃ n6, zs.length = n6 := ⟨_, rfl⟩
        rw [hn6] at HO6 ⊢
        clear ho6
        go_wp2_with fail
        go_ret2
        exact ⟨_, _, zs, rfl, HO6.out, by rw [HK.out]; exact hf6, by rw [HK.out], hB6⟩
      · have HK := Lib.hid (show grown (fis xs) ⟨abv, tag, id, bs, ns⟩ = (fis xs ++ [⟨abv, tag, id, bs, ns⟩], true) by rw [HG2.out, hq2]; rfl)
        rw [hq2] at HTW
        clear hq2
        go_wp2_with fail
        refine HTW.out.mono ?_
        rintro e w5 ⟨rfl, g5⟩
        have hB5 := hB.trans (g5.mono hB.size)
        have HO6 := Lib.hid (HO5.out.on g5)
        go_wp2_with fail
        go_ret2
        exact ⟨_, _, ys, rfl, HO6.out, by rw [HK.out]; exact HFZ.out, by rw [HK.out], hB5⟩

end Go.Proofs.YtgaggpnlimchkaaGreatDoor.B11
