/- Chapter 11: a figure's cells, slices of figures. -/
import Derived.Test.YtgaggpnlimchkaaGreatDoorBase10
import Derived.Test.YtgaggpnlimchkaaGreatDoorBase9
import Derived.Test.YtgaggpnlimchkaaGreatDoorPlain11
namespace Go.Proofs.YtgaggpnlimchkaaGreatDoor.B11
open Go.Proofs.YtgaggpnlimchkaaGreatDoor.P1 Go.Proofs.YtgaggpnlimchkaaGreatDoor.B1 Go.Proofs.YtgaggpnlimchkaaGreatDoor.B2 Go.Proofs.YtgaggpnlimchkaaGreatDoor.T1 Go.Proofs.YtgaggpnlimchkaaGreatDoor.BT Go.Proofs.YtgaggpnlimchkaaGreatDoor.P5 Go.Proofs.YtgaggpnlimchkaaGreatDoor.B5 Go.Proofs.YtgaggpnlimchkaaGreatDoor.P6 Go.Proofs.YtgaggpnlimchkaaGreatDoor.P9 Go.Proofs.YtgaggpnlimchkaaGreatDoor.B6 Go.Proofs.YtgaggpnlimchkaaGreatDoor.B9 Go.Proofs.YtgaggpnlimchkaaGreatDoor.D1 Go.Proofs.YtgaggpnlimchkaaGreatDoor.W8 Go.Proofs.YtgaggpnlimchkaaGreatDoor.RC Go.Proofs.YtgaggpnlimchkaaGreatDoor.RI Go.Proofs.YtgaggpnlimchkaaGreatDoor.P10 Go.Proofs.YtgaggpnlimchkaaGreatDoor.B10 Go.Proofs.YtgaggpnlimchkaaGreatDoor.P11
open Go.ChangeShapes Go.WideShapes Go.ChangeAt Go.RowKit
set_option linter.unusedVariables false

/-- A figure with the slices that hold its badges and its notes. -/
structure Fv where
  f : Fi
  u : Value
  n : Value

def fiL (x : Fv) : List Value := [.int .i64 x.f.above, .string ⟨x.f.tag.toArray⟩, .string ⟨x.f.id.toArray⟩, x.u, x.n]

def fiV (x : Fv) : Value := .agg (fiL x).toArray

theorem fiV_is (x : Fv) : fiV x = .agg #[.int .i64 x.f.above, .string ⟨x.f.tag.toArray⟩, .string ⟨x.f.id.toArray⟩, x.u, x.n] := rfl

def fiRs (xs : List Fv) : List (List Value) := xs.map fiL

/-- The figures themselves. -/
def fis (xs : List Fv) : List Fi := xs.map (·.f)

theorem fis_len (xs : List Fv) : (fis xs).length = xs.length := by simp [fis]
theorem fis_at {xs : List Fv} {i : Nat} {x : Fv} (h : xs[i]? = some x) : (fis xs)[i]? = some x.f := by unfold fis; rw [List.getElem?_map, h]; rfl
theorem at_fis {xs : List Fv} {i : Nat} {f : Fi} (h : (fis xs)[i]? = some f) : ∃ x, xs[i]? = some x ∧ x.f = f := by
  unfold fis at h
  rw [List.getElem?_map] at h
  cases hx : xs[i]? with
  | none => rw [hx] at h; cases h
  | some x => rw [hx] at h; exact ⟨x, rfl, Option.some.inj h⟩

/-- Its badges and its notes lie there. -/
def HeldF (w : World) (x : Fv) : Prop := StrSlc w x.u x.f.bs ∧ NoSlc w x.n x.f.ns

theorem HeldF.on {w w' : World} {x : Fv} (h : HeldF w x) (hb : Below w.heap.size w w') : HeldF w' x := ⟨StrSlc.on h.1 hb, NoSlc.on h.2 hb⟩

theorem heldF_form {w : World} {x : Fv} (h : HeldF w x) : (∃ a cap, x.u = .slice a x.f.bs.length cap ∧ x.f.bs.length ≤ cap ∧ cap ≤ 9223372036854775807) ∧ ∃ a cap, x.n = .slice a x.f.ns.length cap ∧ x.f.ns.length ≤ cap ∧ cap ≤ 9223372036854775807 := by
  obtain ⟨a, cap, e, h1, h2, _⟩ := StrSlc.form h.1
  obtain ⟨a', cap', e', h1', h2', _⟩ := NoSlc.form h.2
  exact ⟨⟨a, cap, e, h1, h2⟩, a', cap', e', h1', h2'⟩

theorem fiL_one {w : World} {x : Fv} (h : HeldF w x) : (fiL x).all (·.oneCell') = true := by
  obtain ⟨⟨a, cap, e, _⟩, a', cap', e', _⟩ := heldF_form h
  unfold fiL
  rw [e, e']; rfl

/-- A slice of figures. -/
def FiSlc (w : World) (v : Value) (xs : List Fv) : Prop := RC.Slc 5 w v (fiRs xs) ∧ ∀ x ∈ xs, HeldF w x

theorem fiRs_len (xs : List Fv) : (fiRs xs).length = xs.length := by simp [fiRs]
theorem fiRs_at {xs : List Fv} {i : Nat} {x : Fv} (h : xs[i]? = some x) : (fiRs xs)[i]? = some (fiL x) := by unfold fiRs; rw [List.getElem?_map, h]; rfl
theorem fiRs_five (xs : List Fv) : ∀ r ∈ fiRs xs, r.length = 5 := fun r hr => by
  obtain ⟨n, _, rfl⟩ := List.mem_map.1 hr
  rfl

theorem FiSlc.on {w w' : World} {v : Value} {xs : List Fv} (h : FiSlc w v xs) (hb : Below w.heap.size w w') : FiSlc w' v xs := ⟨Slc.on h.1 hb, fun x hx => (h.2 x hx).on hb⟩

theorem FiSlc.form {w : World} {v : Value} {xs : List Fv} (h : FiSlc w v xs) : ∃ a cap, v = .slice a xs.length cap ∧ xs.length ≤ cap ∧ cap ≤ 9223372036854775807 ∧ (xs ≠ [] → ∃ g off, a = some ⟨g, off, none⟩ ∧ RC.At 5 w g off (fiRs xs)) := by
  obtain ⟨a, cap, e, h1, h2, h3⟩ := h.1
  rw [fiRs_len] at e h1
  exact ⟨a, cap, e, h1, h2, fun hne => h3 (by intro e0; exact hne (List.map_eq_nil_iff.1 e0))⟩

theorem fi_wide : wideT Tryz.prog 28 5 = true := by kernel_rfl

theorem fi_cells {w : World} {g off i : Nat} {xs : List Fv} {x : Fv} (h : RC.At 5 w g off (fiRs xs)) (hx : xs[i]? = some x) :
    w.cell? ⟨g, off + i * 5, none⟩ = some (.int .i64 x.f.above) ∧ w.cell? ⟨g, off + i * 5 + 1, none⟩ = some (.string ⟨x.f.tag.toArray⟩) ∧ w.cell? ⟨g, off + i * 5 + 2, none⟩ = some (.string ⟨x.f.id.toArray⟩) ∧ w.cell? ⟨g, off + i * 5 + 3, none⟩ = some x.u ∧ w.cell? ⟨g, off + i * 5 + 4, none⟩ = some x.n :=
  ⟨h.cells i _ (fiRs_at hx) 0 _ rfl, h.cells i _ (fiRs_at hx) 1 _ rfl, h.cells i _ (fiRs_at hx) 2 _ rfl, h.cells i _ (fiRs_at hx) 3 _ rfl, h.cells i _ (fiRs_at hx) 4 _ rfl⟩

theorem fi_load {w : World} {g off i : Nat} {xs : List Fv} {x : Fv} (h : RC.At 5 w g off (fiRs xs)) (hx : xs[i]? = some x) : (loadVar 28 ⟨g, off + i * 5, none⟩).run Tryz.prog w = .ok (fiV x) w := load_at h (fiRs_at hx) fi_wide

def fiZ : List Value := [.int .i64 0, .string ⟨#[]⟩, .string ⟨#[]⟩, .slice none 0 0, .slice none 0 0]

theorem fi_laid {w : World} {x : Fv} (W : World) (h : HeldF w x) : ∃ w', (storeVar 28 ⟨W.heap.size, 0, none⟩ (fiV x)).run Tryz.prog (W.alloc (.cells #[.int .i64 0, .string ⟨#[]⟩, .string ⟨#[]⟩, .slice none 0 0, .slice none 0 0] 28)) = .ok () w' ∧ LBlk w' W.heap.size (fiL x) ∧ Below W.heap.size W w' := laid W fiZ (fiL x) fi_wide rfl (fiL_one h)

theorem fi_blk {w : World} {b : Nat} {x : Fv} (h : LBlk w b (fiL x)) : w.cell? ⟨b, 0, none⟩ = some (.int .i64 x.f.above) ∧ w.cell? ⟨b, 1, none⟩ = some (.string ⟨x.f.tag.toArray⟩) ∧ w.cell? ⟨b, 2, none⟩ = some (.string ⟨x.f.id.toArray⟩) ∧ w.cell? ⟨b, 3, none⟩ = some x.u ∧ w.cell? ⟨b, 4, none⟩ = some x.n :=
  ⟨(h.2 0 _ rfl).1, (h.2 1 _ rfl).1, (h.2 2 _ rfl).1, (h.2 3 _ rfl).1, (h.2 4 _ rfl).1⟩

/-- A guard that is met is taken off. -/
theorem wpList_bare11 {P : Program} {ops : Array Oper} {Q : Exit → Act → World → Prop} {a : Act} {w : World} {rest : List Oper} {o : Oper}
    (hw : Region.wanted o (yielded ops a.tmps) = true) (h : wpList P ops Q ({ o with guard := none } :: rest) a w) : wpList P ops Q (o :: rest) a w := by
  simp only [wpList] at h ⊢
  rw [if_pos hw]
  rw [if_pos (by simp [Region.wanted])] at h
  exact h

/-- Short enough for whatever is reckoned. -/
def FitsF (x : Fv) : Prop := (-9223372036854775808 ≤ x.f.above ∧ x.f.above ≤ 9223372036854775807) ∧ x.f.tag.length ≤ 1048576 ∧ x.f.id.length ≤ 1048576 ∧ x.f.bs.length ≤ 1048576 ∧ (∀ s ∈ x.f.bs, s.length ≤ 1048576) ∧ x.f.ns.length ≤ 1048576 ∧ ∀ n ∈ x.f.ns, (-9223372036854775808 ≤ n.l ∧ n.l ≤ 9223372036854775807) ∧ n.v.w.length ≤ 1048576

end Go.Proofs.YtgaggpnlimchkaaGreatDoor.B11
