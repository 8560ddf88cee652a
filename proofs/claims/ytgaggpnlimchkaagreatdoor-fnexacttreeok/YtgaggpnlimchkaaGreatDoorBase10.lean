/- Chapter 10: a part's cells, slices of parts; the reference's l10Name, l10Badges, l10Part, PickOk, l10Weight, WeightOf. -/
import Derived.Test.YtgaggpnlimchkaaGreatDoorBase6
import Derived.Test.YtgaggpnlimchkaaGreatDoorSeq10
import Derived.Test.YtgaggpnlimchkaaGreatDoorImp6
import Derived.BigQuiet
import Derived.Deep.QuietTactic
import Derived.Deep.LoopGhost
namespace Go.Proofs.YtgaggpnlimchkaaGreatDoor.B10
open Go.Proofs.YtgaggpnlimchkaaGreatDoor.P1 Go.Proofs.YtgaggpnlimchkaaGreatDoor.B1 Go.Proofs.YtgaggpnlimchkaaGreatDoor.B2 Go.Proofs.YtgaggpnlimchkaaGreatDoor.T1 Go.Proofs.YtgaggpnlimchkaaGreatDoor.BT Go.Proofs.YtgaggpnlimchkaaGreatDoor.P5 Go.Proofs.YtgaggpnlimchkaaGreatDoor.B5 Go.Proofs.YtgaggpnlimchkaaGreatDoor.P6 Go.Proofs.YtgaggpnlimchkaaGreatDoor.B6 Go.Proofs.YtgaggpnlimchkaaGreatDoor.D1 Go.Proofs.YtgaggpnlimchkaaGreatDoor.W8 Go.Proofs.YtgaggpnlimchkaaGreatDoor.RC Go.Proofs.YtgaggpnlimchkaaGreatDoor.RI Go.Proofs.YtgaggpnlimchkaaGreatDoor.P10
open Go.ChangeShapes Go.WideShapes Go.ChangeAt Go.RowKit
set_option linter.unusedVariables false

/-- A part with the slice that holds its badges. -/
structure Pv where
  p : Pt
  u : Value

def ptL (x : Pv) : List Value := [.string ⟨x.p.tag.toArray⟩, .string ⟨x.p.id.toArray⟩, x.u, .bool x.p.near]

def ptV (x : Pv) : Value := .agg (ptL x).toArray

def ptRs (xs : List Pv) : List (List Value) := xs.map ptL

/-- The badges lie there, in slices of lengths that Go can hold. -/
def Held (w : World) (x : Pv) : Prop := StrSlc w x.u x.p.bs

theorem Held.on {w w' : World} {x : Pv} (h : Held w x) (hb : Below w.heap.size w w') : Held w' x := StrSlc.on h hb

/-- A slice of parts. -/
def PtSlc (w : World) (v : Value) (xs : List Pv) : Prop := RC.Slc 4 w v (ptRs xs) ∧ ∀ x ∈ xs, Held w x

theorem ptRs_len (xs : List Pv) : (ptRs xs).length = xs.length := by simp [ptRs]
theorem ptRs_at {xs : List Pv} {i : Nat} {x : Pv} (h : xs[i]? = some x) : (ptRs xs)[i]? = some (ptL x) := by unfold ptRs; rw [List.getElem?_map, h]; rfl
theorem ptRs_four (xs : List Pv) : ∀ r ∈ ptRs xs, r.length = 4 := fun r hr => by
  obtain ⟨n, _, rfl⟩ := List.mem_map.1 hr
  rfl

theorem PtSlc.on {w w' : World} {v : Value} {xs : List Pv} (h : PtSlc w v xs) (hb : Below w.heap.size w w') : PtSlc w' v xs := ⟨Slc.on h.1 hb, fun x hx => (h.2 x hx).on hb⟩

theorem PtSlc.form {w : World} {v : Value} {xs : List Pv} (h : PtSlc w v xs) : ∃ a cap, v = .slice a xs.length cap ∧ xs.length ≤ cap ∧ cap ≤ 9223372036854775807 ∧ (xs ≠ [] → ∃ g off, a = some ⟨g, off, none⟩ ∧ RC.At 4 w g off (ptRs xs)) := by
  obtain ⟨a, cap, e, h1, h2, h3⟩ := h.1
  rw [ptRs_len] at e h1
  exact ⟨a, cap, e, h1, h2, fun hne => h3 (by intro e0; exact hne (List.map_eq_nil_iff.1 e0))⟩

theorem pt_wide : wideT Tryz.prog 47 4 = true := by kernel_rfl

theorem pt_cells {w : World} {g off i : Nat} {xs : List Pv} {x : Pv} (h : RC.At 4 w g off (ptRs xs)) (hx : xs[i]? = some x) :
    w.cell? ⟨g, off + i * 4, none⟩ = some (.string ⟨x.p.tag.toArray⟩) ∧ w.cell? ⟨g, off + i * 4 + 1, none⟩ = some (.string ⟨x.p.id.toArray⟩) ∧ w.cell? ⟨g, off + i * 4 + 2, none⟩ = some x.u ∧ w.cell? ⟨g, off + i * 4 + 3, none⟩ = some (.bool x.p.near) :=
  ⟨h.cells i _ (ptRs_at hx) 0 _ rfl, h.cells i _ (ptRs_at hx) 1 _ rfl, h.cells i _ (ptRs_at hx) 2 _ rfl, h.cells i _ (ptRs_at hx) 3 _ rfl⟩

theorem pt_load {w : World} {g off i : Nat} {xs : List Pv} {x : Pv} (h : RC.At 4 w g off (ptRs xs)) (hx : xs[i]? = some x) : (loadVar 47 ⟨g, off + i * 4, none⟩).run Tryz.prog w = .ok (ptV x) w := load_at h (ptRs_at hx) pt_wide

theorem held_form {w : World} {x : Pv} (h : Held w x) : ∃ a cap, x.u = .slice a x.p.bs.length cap ∧ x.p.bs.length ≤ cap ∧ cap ≤ 9223372036854775807 := by
  obtain ⟨a, cap, e, h1, h2, _⟩ := StrSlc.form h
  exact ⟨a, cap, e, h1, h2⟩

theorem ptL_one {w : World} {x : Pv} (h : Held w x) : (ptL x).all (·.oneCell') = true := by
  obtain ⟨a, cap, e, _⟩ := held_form h
  unfold ptL
  rw [e]; rfl

def ptZ : List Value := [.string ⟨#[]⟩, .string ⟨#[]⟩, .slice none 0 0, .bool false]

theorem pt_laid {w : World} {x : Pv} (h : Held w x) : ∃ w', (storeVar 47 ⟨w.heap.size, 0, none⟩ (ptV x)).run Tryz.prog (w.alloc (.cells #[.string ⟨#[]⟩, .string ⟨#[]⟩, .slice none 0 0, .bool false] 47)) = .ok () w' ∧ LBlk w' w.heap.size (ptL x) ∧ Below w.heap.size w w' := laid w ptZ (ptL x) pt_wide rfl (ptL_one h)

theorem pt_blk {w : World} {b : Nat} {x : Pv} (h : LBlk w b (ptL x)) : w.cell? ⟨b, 0, none⟩ = some (.string ⟨x.p.tag.toArray⟩) ∧ w.cell? ⟨b, 1, none⟩ = some (.string ⟨x.p.id.toArray⟩) ∧ w.cell? ⟨b, 2, none⟩ = some x.u ∧ w.cell? ⟨b, 3, none⟩ = some (.bool x.p.near) :=
  ⟨(h.2 0 _ rfl).1, (h.2 1 _ rfl).1, (h.2 2 _ rfl).1, (h.2 3 _ rfl).1⟩

/-- A boxed part. -/
theorem pt_new (w : World) (x : Pv) (t : TypeId) : LBlk (w.alloc (.cells #[.string ⟨x.p.tag.toArray⟩, .string ⟨x.p.id.toArray⟩, x.u, .bool x.p.near] t)) w.heap.size (ptL x) := LBlk.new w (ptL x) t

theorem ptV_is (x : Pv) : ptV x = .agg #[.string ⟨x.p.tag.toArray⟩, .string ⟨x.p.id.toArray⟩, x.u, .bool x.p.near] := rfl

/-- Short enough for whatever is reckoned. -/
def Fits (x : Pv) : Prop := x.p.tag.length ≤ 1048576 ∧ x.p.id.length ≤ 1048576 ∧ x.p.bs.length ≤ 1048576 ∧ ∀ s ∈ x.p.bs, s.length ≤ 1048576

theorem Name10_spec (s : List UInt8) (w : World) (hl : s.length ≤ 1048576) : Calls Tryz.prog 88 #[.string ⟨s.toArray⟩] w fun e w' => e = .returned (.bool (isName s 8)) ∧ w = w' := by
  have HN := Lib.hid (fun w' => IsName_spec s 8 w' hl (by omega))
  go_enter Tryz.func88, Tryz.ntmps88
  go_wp2_with (go_at_call 106; refine (HN.out _).mono ?_; rintro e w' ⟨rfl, rfl⟩)
  go_ret
  exact ⟨rfl, rfl⟩

end Go.Proofs.YtgaggpnlimchkaaGreatDoor.B10
