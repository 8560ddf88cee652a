/- Chapter 11: figures of the call's own, whose badges and notes are of the call's own and lie apart. -/
import Derived.Test.YtgaggpnlimchkaaGreatDoorBase11
namespace Go.Proofs.YtgaggpnlimchkaaGreatDoor.B11
open Go.Proofs.YtgaggpnlimchkaaGreatDoor.P1 Go.Proofs.YtgaggpnlimchkaaGreatDoor.B1 Go.Proofs.YtgaggpnlimchkaaGreatDoor.B2 Go.Proofs.YtgaggpnlimchkaaGreatDoor.T1 Go.Proofs.YtgaggpnlimchkaaGreatDoor.BT Go.Proofs.YtgaggpnlimchkaaGreatDoor.P5 Go.Proofs.YtgaggpnlimchkaaGreatDoor.B5 Go.Proofs.YtgaggpnlimchkaaGreatDoor.P6 Go.Proofs.YtgaggpnlimchkaaGreatDoor.P9 Go.Proofs.YtgaggpnlimchkaaGreatDoor.B6 Go.Proofs.YtgaggpnlimchkaaGreatDoor.B9 Go.Proofs.YtgaggpnlimchkaaGreatDoor.D1 Go.Proofs.YtgaggpnlimchkaaGreatDoor.W8 Go.Proofs.YtgaggpnlimchkaaGreatDoor.RC Go.Proofs.YtgaggpnlimchkaaGreatDoor.RI Go.Proofs.YtgaggpnlimchkaaGreatDoor.P10 Go.Proofs.YtgaggpnlimchkaaGreatDoor.B10 Go.Proofs.YtgaggpnlimchkaaGreatDoor.P11
open Go.ChangeShapes Go.WideShapes Go.ChangeAt Go.RowKit
set_option linter.unusedVariables false

/-- A row of notes of the call's own. -/
def Nots (W : World) (v : Value) (B : Nat) (ns : List No) : Prop := W.ownsRow B 107 9 v ns.length (noRs ns).flatten

theorem Nots.slc {W : World} {v : Value} {B : Nat} {ns : List No} (h : Nots W v B ns) : NoSlc W v ns := by
  have : RC.Own 107 9 W v B (noRs ns) := ⟨by rw [show (noRs ns).length = ns.length by simp [noRs]]; exact h, noRs_nine ns⟩
  exact this.val.slc

theorem row_baseG {w : World} {B B' e s n : Nat} {v : Value} {xs : List Value} (h : w.ownsRow B e s v n xs) (hb : B' ≤ B) : w.ownsRow B' e s v n xs := ⟨h.1, by
  rcases h.2 with hn | ⟨g, cap, cur, hv, hbg, rest⟩
  · exact .inl hn
  · exact .inr ⟨g, cap, cur, hv, Nat.le_trans hb hbg, rest⟩⟩

/-- Rows of two types lie apart. -/
theorem row_apartG {W : World} {B B' k m s s' e e' : Nat} {u v : Value} {xs ys : List Value} (hne : e ≠ e') (h : W.ownsRow B e s u k xs) (h' : W.ownsRow B' e' s' v m ys) : u.ownBlock = none ∨ u.ownBlock ≠ v.ownBlock := by
  rcases h.2 with ⟨rfl, _⟩ | ⟨g, cap, cur, rfl, _, hg, _⟩
  · exact Or.inl rfl
  · refine Or.inr fun e => ?_
    rcases h'.2 with ⟨rfl, _⟩ | ⟨g', cap', cur', rfl, _, hg', _⟩
    · cases e
    · have e1 : g = g' := Option.some.inj e
      subst e1
      rw [hg] at hg'
      have := Option.some.inj hg'
      injection this with _ h2 _
      exact absurd h2 hne

theorem row_grownG {W W' : World} {B B' k m s s' e e' : Nat} {u v : Value} {xs ys : List Value} (hne : e ≠ e') (h : W.ownsRow B e s u k xs) (h' : W.ownsRow B' e' s' v m ys) (hg : W.grownBy W' v.ownBlock) : W'.ownsRow B e s u k xs := h.kept hg (row_apartG hne h h')

/-- What was made later lies apart. -/
theorem late_G {W W' : World} {B e s n e' s' m : Nat} {u v : Value} {xs ys : List Value} (h : W.ownsRow B e s u n xs) (h' : W'.ownsRow W.heap.size e' s' v m ys) : u.ownBlock = none ∨ u.ownBlock ≠ v.ownBlock := by
  rcases h.2 with ⟨rfl, _⟩ | ⟨g, cap, cur, rfl, _, hg, _⟩
  · exact Or.inl rfl
  · refine Or.inr fun e => ?_
    have h1 := (World.ownsRow.lt h' g e.symm).1
    have h2 : g < W.heap.size := (Array.getElem?_eq_some_iff.1 hg).1
    omega

theorem row_onlyG {w w' : World} {B e size n c : Nat} {v : Value} {xs : List Value} (h : w.ownsRow B e size v n xs) (ho : Only c w w') (hc : c < B) : w'.ownsRow B e size v n xs := by
  have hne : v.ownBlock ≠ some c := fun e0 => by
    have := (World.ownsRow.lt h c e0).1
    omega
  exact h.kept (row := some c) ⟨ho.os, ho.tape, ho.output, ho.size, fun k hk hn => ho.block k (fun e0 => hn (by rw [e0])) hk⟩ (Or.inr hne)

theorem row_formG {w : World} {B e size n : Nat} {v : Value} {xs : List Value} (h : w.ownsRow B e size v n xs) : ∃ a c, v = .slice a n c ∧ n ≤ c ∧ c ≤ 9223372036854775807 := by
  rcases h.2 with ⟨rfl, rfl⟩ | ⟨g, cap, cur, rfl, hb, hg, hc, hm, rest⟩
  · exact ⟨none, 0, rfl, Nat.le_refl _, by omega⟩
  · exact ⟨_, cap, rfl, hc, by unfold maxLen at hm; omega⟩

/-- A figure whose badges and notes are of the call's own. -/
structure OneG (B : Nat) (y : Fv) (W : World) : Prop where
  b : Words W y.u B y.f.bs
  n : Nots W y.n B y.f.ns

theorem OneG.held {B : Nat} {y : Fv} {W : World} (h : OneG B y W) : HeldF W y := ⟨Words.slc h.b, h.n.slc⟩

theorem OneG.on {B : Nat} {y : Fv} {W W' : World} (h : OneG B y W) (hb : Below W.heap.size W W') : OneG B y W' := ⟨own_below h.b hb, own_below h.n hb⟩

theorem OneG.base {B B' : Nat} {y : Fv} {W : World} (h : OneG B y W) (hb : B' ≤ B) : OneG B' y W := ⟨row_baseG h.b hb, row_baseG h.n hb⟩

structure OwnG (B : Nat) (v : Value) (zs : List Fv) (W : World) : Prop where
  own : W.ownsRow B 28 5 v zs.length (fiRs zs).flatten
  hs : ∀ z ∈ zs, OneG B z W
  ab : zs.Pairwise fun x y => x.u.ownBlock = none ∨ x.u.ownBlock ≠ y.u.ownBlock
  an : zs.Pairwise fun x y => x.n.ownBlock = none ∨ x.n.ownBlock ≠ y.n.ownBlock

theorem OwnG.slc {B : Nat} {v : Value} {zs : List Fv} {W : World} (h : OwnG B v zs W) : FiSlc W v zs := by
  have : RC.Own 28 5 W v B (fiRs zs) := ⟨by rw [fiRs_len]; exact h.own, fiRs_five zs⟩
  exact ⟨this.val.slc, fun x hx => (h.hs x hx).held⟩

theorem OwnG.on {B : Nat} {v : Value} {zs : List Fv} {W W' : World} (h : OwnG B v zs W) (hb : Below W.heap.size W W') : OwnG B v zs W' :=
  ⟨own_below h.own hb, fun x hx => (h.hs x hx).on hb, h.ab, h.an⟩

theorem OwnG.base {B B' : Nat} {v : Value} {zs : List Fv} {W : World} (h : OwnG B v zs W) (hb : B' ≤ B) : OwnG B' v zs W :=
  ⟨row_baseG h.own hb, fun x hx => (h.hs x hx).base hb, h.ab, h.an⟩

theorem OwnG.form {B : Nat} {v : Value} {zs : List Fv} {W : World} (h : OwnG B v zs W) : ∃ a c, v = .slice a zs.length c := by
  rcases h.own.2 with ⟨rfl, h0⟩ | ⟨g, cap, cur, rfl, _⟩
  · exact ⟨none, 0, by rw [h0]⟩
  · exact ⟨_, _, rfl⟩

theorem ownG_lit (w : World) {B : Nat} (hB : B ≤ w.heap.size) : OwnG B (.slice (some ⟨w.heap.size, 0, none⟩) 0 0) [] (w.alloc (.cells #[] 28)) :=
  ⟨World.ownsRow_lit w #[] 0 hB (by decide) rfl, fun x hx => (by cases hx), List.Pairwise.nil, List.Pairwise.nil⟩

theorem fiRs_snoc (zs : List Fv) (Z : Fv) : (fiRs (zs ++ [Z])).flatten = (fiRs zs).flatten ++ fiL Z := by unfold fiRs; simp

theorem fiRs_flenG (xs : List Fv) : (fiRs xs).flatten.length = xs.length * 5 := by rw [flat_len (fiRs_five xs), fiRs_len]

/-- One figure more, whose rows were made since W0. -/
theorem ownG_snoc {B d : Nat} {v v7 : Value} {zs : List Fv} {Z : Fv} {W0 W W7 : World} (hd : zs.length = d) (h0 : OwnG B v zs W0) (h : OwnG B v zs W) (hZ : OneG W0.heap.size Z W) (hB : B ≤ W0.heap.size) (hown : W7.ownsRow B 28 5 v7 (d + 1) ((fiRs zs).flatten ++ fiL Z)) (hg : W.grownBy W7 v.ownBlock) : OwnG B v7 (zs ++ [Z]) W7 := by
  have hZB := hZ.base hB
  refine ⟨?_, fun x hx => ?_, ?_, ?_⟩
  · rw [fiRs_snoc, List.length_append, hd]
    exact hown
  · rcases List.mem_append.1 hx with hx | hx
    · exact ⟨row_grownG (by decide) (h.hs x hx).b h.own hg, row_grownG (by decide) (h.hs x hx).n h.own hg⟩
    · obtain rfl : x = Z := by simpa using hx
      exact ⟨row_grownG (by decide) hZB.b h.own hg, row_grownG (by decide) hZB.n h.own hg⟩
  · rw [List.pairwise_append]
    refine ⟨h.ab, List.pairwise_singleton _ _, fun x hx y hy => ?_⟩
    obtain rfl : y = Z := by simpa using hy
    exact late_G (h0.hs x hx).b hZ.b
  · rw [List.pairwise_append]
    refine ⟨h.an, List.pairwise_singleton _ _, fun x hx y hy => ?_⟩
    obtain rfl : y = Z := by simpa using hy
    exact late_G (h0.hs x hx).n hZ.n

end Go.Proofs.YtgaggpnlimchkaaGreatDoor.B11
