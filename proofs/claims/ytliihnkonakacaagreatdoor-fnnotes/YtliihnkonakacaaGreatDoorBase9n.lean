/- Chapter 9: contracts of the laws' own helpers on notes: szNote, toNote, eqNote, and on lists of them. -/
import Derived.Test.YtliihnkonakacaaGreatDoorBase9
import Derived.Test.YtliihnkonakacaaGreatDoorBase6n
import Derived.Test.YtliihnkonakacaaGreatDoorFound
namespace Go.Proofs.YtliihnkonakacaaGreatDoor.B9
open Go.Proofs.YtliihnkonakacaaGreatDoor.P1 Go.Proofs.YtliihnkonakacaaGreatDoor.B1 Go.Proofs.YtliihnkonakacaaGreatDoor.B2 Go.Proofs.YtliihnkonakacaaGreatDoor.T1 Go.Proofs.YtliihnkonakacaaGreatDoor.BT Go.Proofs.YtliihnkonakacaaGreatDoor.P5 Go.Proofs.YtliihnkonakacaaGreatDoor.P6 Go.Proofs.YtliihnkonakacaaGreatDoor.P8 Go.Proofs.YtliihnkonakacaaGreatDoor.P9 Go.Proofs.YtliihnkonakacaaGreatDoor.B5 Go.Proofs.YtliihnkonakacaaGreatDoor.B6 Go.Proofs.YtliihnkonakacaaGreatDoor.D1 Go.Proofs.YtliihnkonakacaaGreatDoor.W8 Go.Proofs.YtliihnkonakacaaGreatDoor.RC Go.Proofs.YtliihnkonakacaaGreatDoor.RI
open Go.Joins Go.ChangeShapes Go.WideShapes Go.ChangeAt Go.RowKit Go.Deep
set_option linter.unusedVariables false

theorem val9_wide : wideT Tryz.prog 54 7 = true := by kernel_rfl

/-- A value's cells. -/
def vaL (x : Va) : List Value := [.int .i64 x.k, .int .i64 x.n, .int .i64 x.r, .int .i64 x.g, .int .i64 x.b, .int .i64 x.c, .string ⟨x.w.toArray⟩]

theorem vaL_is (x : Va) : valV x = .agg (vaL x).toArray := rfl

theorem no_val {w : World} {b : Nat} {n : No} (h : LBlk w b (noL n)) : (loadVar 54 ⟨b, 1, none⟩).run Tryz.prog w = .ok (valV n.v) w := load_part (vs := vaL n.v) h val9_wide rfl

/-- A boxed note. -/
theorem no_new (w : World) (n : No) (t : TypeId) : LBlk (w.alloc (.cells #[.int .i64 n.l, .int .i64 n.v.k, .int .i64 n.v.n, .int .i64 n.v.r, .int .i64 n.v.g, .int .i64 n.v.b, .int .i64 n.v.c, .string ⟨n.v.w.toArray⟩, .bool n.s] t)) w.heap.size (noL n) := LBlk.new w (noL n) t

theorem noV_is (n : No) : noV n = .agg #[.int .i64 n.l, .int .i64 n.v.k, .int .i64 n.v.n, .int .i64 n.v.r, .int .i64 n.v.g, .int .i64 n.v.b, .int .i64 n.v.c, .string ⟨n.v.w.toArray⟩, .bool n.s] := rfl

/-- Three blocks of the call's own. -/
theorem three_new (w : World) (xs ys zs : List Value) (t u r : TypeId) : LBlk (((w.alloc (.cells xs.toArray t)).alloc (.cells ys.toArray u)).alloc (.cells zs.toArray r)) w.heap.size xs ∧ LBlk (((w.alloc (.cells xs.toArray t)).alloc (.cells ys.toArray u)).alloc (.cells zs.toArray r)) (w.heap.size + 1) ys ∧ LBlk (((w.alloc (.cells xs.toArray t)).alloc (.cells ys.toArray u)).alloc (.cells zs.toArray r)) (w.heap.size + 1 + 1) zs ∧ Below w.heap.size w (((w.alloc (.cells xs.toArray t)).alloc (.cells ys.toArray u)).alloc (.cells zs.toArray r)) := by
  have h1 := LBlk.new (w.alloc (.cells xs.toArray t)) ys u
  have h2 := LBlk.new ((w.alloc (.cells xs.toArray t)).alloc (.cells ys.toArray u)) zs r
  rw [World.size_alloc] at h1
  rw [World.size_alloc, World.size_alloc] at h2
  have hb := (((Below.refl w.heap.size w).alloc (Nat.le_refl _) (.cells xs.toArray t)).alloc (by simp) (.cells ys.toArray u)).alloc (by simp; omega) (.cells zs.toArray r)
  exact ⟨((LBlk.new w xs t).alloc _).alloc _, h1.alloc _, h2, hb⟩

end Go.Proofs.YtliihnkonakacaaGreatDoor.B9
