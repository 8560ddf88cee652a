/- Chapter 9: a note's cells; contracts of NoteFor, the reference's and the program's. -/
import Derived.Test.YtgaggpnlimchkaaGreatDoorBase6
import Derived.Test.YtgaggpnlimchkaaGreatDoorFound
import Derived.Test.YtgaggpnlimchkaaGreatDoorPlain
import Derived.BigQuiet
import Derived.Deep.QuietTactic
import Derived.Deep.LoopGhost
namespace Go.Proofs.YtgaggpnlimchkaaGreatDoor.B9
open Go.Proofs.YtgaggpnlimchkaaGreatDoor.P1 Go.Proofs.YtgaggpnlimchkaaGreatDoor.B1 Go.Proofs.YtgaggpnlimchkaaGreatDoor.B2 Go.Proofs.YtgaggpnlimchkaaGreatDoor.T1 Go.Proofs.YtgaggpnlimchkaaGreatDoor.BT Go.Proofs.YtgaggpnlimchkaaGreatDoor.P5 Go.Proofs.YtgaggpnlimchkaaGreatDoor.P6 Go.Proofs.YtgaggpnlimchkaaGreatDoor.P8 Go.Proofs.YtgaggpnlimchkaaGreatDoor.P9 Go.Proofs.YtgaggpnlimchkaaGreatDoor.B5 Go.Proofs.YtgaggpnlimchkaaGreatDoor.B6 Go.Proofs.YtgaggpnlimchkaaGreatDoor.D1 Go.Proofs.YtgaggpnlimchkaaGreatDoor.W8 Go.Proofs.YtgaggpnlimchkaaGreatDoor.RC
open Go.ChangeShapes Go.WideShapes Go.ChangeAt Go.RowKit
set_option linter.unusedVariables false

/-- A note as its cells lie. -/
def noL (n : No) : List Value := [.int .i64 n.l, .int .i64 n.v.k, .int .i64 n.v.n, .int .i64 n.v.r, .int .i64 n.v.g, .int .i64 n.v.b, .int .i64 n.v.c, .string ⟨n.v.w.toArray⟩, .bool n.s]

def noV (n : No) : Value := .agg (noL n).toArray

def noZ : List Value := [.int .i64 0, .int .i64 0, .int .i64 0, .int .i64 0, .int .i64 0, .int .i64 0, .int .i64 0, .string ⟨#[]⟩, .bool false]

theorem noL_zero : noL No.zero = noZ := rfl
theorem noL_len (n : No) : (noL n).length = 9 := rfl
theorem noL_one (n : No) : (noL n).all (·.oneCell') = true := rfl
theorem no_wide : wideT Tryz.prog 107 9 = true := by kernel_rfl

/-- The records of notes. -/
def noRs (ns : List No) : List (List Value) := ns.map noL

theorem noRs_len (ns : List No) : (noRs ns).length = ns.length := by unfold noRs; rw [List.length_map]
theorem noRs_at {ns : List No} {i : Nat} {n : No} (h : ns[i]? = some n) : (noRs ns)[i]? = some (noL n) := by unfold noRs; rw [List.getElem?_map, h]; rfl
theorem noRs_nine (ns : List No) : ∀ r ∈ noRs ns, r.length = 9 := fun r hr => by
  obtain ⟨n, _, rfl⟩ := List.mem_map.1 hr
  rfl

/-- A slice of notes. -/
def NoSlc (w : World) (v : Value) (ns : List No) : Prop := Slc 9 w v (noRs ns)

theorem NoSlc.on {w w' : World} {v : Value} {ns : List No} (h : NoSlc w v ns) (hb : Below w.heap.size w w') : NoSlc w' v ns := Slc.on h hb

theorem NoSlc.form {w : World} {v : Value} {ns : List No} (h : NoSlc w v ns) : ∃ a cap, v = .slice a ns.length cap ∧ ns.length ≤ cap ∧ cap ≤ 9223372036854775807 ∧ (ns ≠ [] → ∃ g off, a = some ⟨g, off, none⟩ ∧ At 9 w g off (noRs ns)) := by
  obtain ⟨a, cap, e, h1, h2, h3⟩ := h
  rw [noRs_len] at e h1
  exact ⟨a, cap, e, h1, h2, fun hne => h3 (by intro e0; exact hne (by unfold noRs at e0; simpa using e0))⟩

theorem nine_at {w : World} {g off i : Nat} {ns : List No} {n : No} (h : At 9 w g off (noRs ns)) (hn : ns[i]? = some n) : w.cell? ⟨g, off + i * 9, none⟩ = some (.int .i64 n.l) ∧ w.cell? ⟨g, off + i * 9 + 8, none⟩ = some (.bool n.s) :=
  ⟨h.cells i _ (noRs_at hn) 0 _ rfl, h.cells i _ (noRs_at hn) 8 _ rfl⟩

theorem no_load {w : World} {g off i : Nat} {ns : List No} {n : No} (h : At 9 w g off (noRs ns)) (hn : ns[i]? = some n) : (loadVar 107 ⟨g, off + i * 9, none⟩).run Tryz.prog w = .ok (noV n) w := load_at h (noRs_at hn) no_wide

theorem no_laid (w : World) (n : No) : ∃ w', (storeVar 107 ⟨w.heap.size, 0, none⟩ (noV n)).run Tryz.prog (w.alloc (.cells #[.int .i64 0, .int .i64 0, .int .i64 0, .int .i64 0, .int .i64 0, .int .i64 0, .int .i64 0, .string ⟨#[]⟩, .bool false] 107)) = .ok () w' ∧ LBlk w' w.heap.size (noL n) ∧ Below w.heap.size w w' := laid w noZ (noL n) no_wide rfl (noL_one n)

theorem no_store {w : World} {b : Nat} {o : No} (h : LBlk w b (noL o)) (n : No) : ∃ w', (storeVar 107 ⟨b, 0, none⟩ (noV n)).run Tryz.prog w = .ok () w' ∧ LBlk w' b (noL n) ∧ Only b w w' := by
  obtain ⟨w', h1, h2, h3, _⟩ := store_blk (P := Tryz.prog) (ty := 107) (vs := noL n) h no_wide rfl (noL_one n)
  exact ⟨w', h1, h2, h3⟩

theorem no_cells {w : World} {b : Nat} {n : No} (h : LBlk w b (noL n)) : w.cell? ⟨b, 0, none⟩ = some (.int .i64 n.l) ∧ w.cell? ⟨b, 8, none⟩ = some (.bool n.s) := ⟨(h.2 0 _ rfl).1, (h.2 8 _ rfl).1⟩

/-- What NoteFor answers. -/
def forV (ns : List No) (l : Int) : Value := .tuple #[noV (noVal (forN ns l)), .bool (forN ns l).isSome]

end Go.Proofs.YtgaggpnlimchkaaGreatDoor.B9
