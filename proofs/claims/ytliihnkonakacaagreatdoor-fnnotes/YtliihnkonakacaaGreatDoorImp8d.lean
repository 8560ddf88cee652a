/- Contracts of chapter 8's functions of the program: Kept, LookOf. -/
import Derived.Test.YtliihnkonakacaaGreatDoorImp8c
namespace Go.Proofs.YtliihnkonakacaaGreatDoor.B8
open Go.Proofs.YtliihnkonakacaaGreatDoor.P1 Go.Proofs.YtliihnkonakacaaGreatDoor.B1 Go.Proofs.YtliihnkonakacaaGreatDoor.B2 Go.Proofs.YtliihnkonakacaaGreatDoor.T1 Go.Proofs.YtliihnkonakacaaGreatDoor.BT Go.Proofs.YtliihnkonakacaaGreatDoor.P5 Go.Proofs.YtliihnkonakacaaGreatDoor.P6 Go.Proofs.YtliihnkonakacaaGreatDoor.P7 Go.Proofs.YtliihnkonakacaaGreatDoor.P8 Go.Proofs.YtliihnkonakacaaGreatDoor.B5 Go.Proofs.YtliihnkonakacaaGreatDoor.B6 Go.Proofs.YtliihnkonakacaaGreatDoor.B7 Go.Proofs.YtliihnkonakacaaGreatDoor.D1 Go.Proofs.YtliihnkonakacaaGreatDoor.S7 Go.Proofs.YtliihnkonakacaaGreatDoor.RI Go.Proofs.YtliihnkonakacaaGreatDoor.W8
open Go.ChangeShapes Go.WideShapes Go.ChangeAt Go.RowKit
set_option linter.unusedVariables false

/-- What Kept makes of the number. -/
def keptN (l n : Int) : Int := if l = 0 then clip n 0 1000 else if l = 1 then max 0 n else n

theorem kept_eq {l : Int} (h : isLook l = true) (x : Va) : kept l x = ⟨x.k, keptN l x.n, x.r, x.g, x.b, x.c, x.w⟩ := by
  unfold kept keptN
  rw [if_pos h]

/-- Kept's two blocks, the value's and the result's. -/
theorem two_zero (w : World) (x : Va) : LBlk ((w.alloc (.cells (valL x).toArray 54)).alloc (.cells zeroL.toArray 54)) w.heap.size (valL x) ∧ LBlk ((w.alloc (.cells (valL x).toArray 54)).alloc (.cells zeroL.toArray 54)) (w.heap.size + 1) zeroL ∧ Below w.heap.size w ((w.alloc (.cells (valL x).toArray 54)).alloc (.cells zeroL.toArray 54)) := by
  refine ⟨(LBlk.new w _ _).alloc _, ?_, ((Below.refl _ _).alloc (Nat.le_refl _) _).alloc (by simp) _⟩
  have := LBlk.new (w.alloc (.cells (valL x).toArray 54)) zeroL 54
  rwa [World.size_alloc] at this

/-- Does this trait bear the name? -/
theorem lookClosure_impl (vs : List Value) (nm s : List UInt8) (bp : Nat) (w : World) (hlen : vs.length = 11) (h0 : vs[0]? = some (.string ⟨nm.toArray⟩)) (hc : w.cell? ⟨bp, 0, none⟩ = some (.string ⟨s.toArray⟩)) (hlt : bp < w.heap.size) :
    Calls Tryz.prog 223 #[.agg vs.toArray, .pointer (some ⟨bp, 0, none⟩)] w (Ans (.bool (nm == s)) w) := by
  have hz := LBlk.new w vs 150
  have c0 := (hz.2 0 _ h0).1
  have cp : (w.alloc (.cells vs.toArray 150)).cell? ⟨bp, 0, none⟩ = some (.string ⟨s.toArray⟩) := (((Below.refl w.heap.size w).alloc (Nat.le_refl _) _).cell (p := ⟨bp, 0, none⟩) hlt).trans hc
  have hb : Below w.heap.size w (w.alloc (.cells vs.toArray 150)) := (Below.refl _ _).alloc (Nat.le_refl _) _
  clear hz hc h0
  cases he : nm == s
  all_goals
    go_enter Tryz.func223, Tryz.ntmps223
    go_wp2
    go_ret
    exact ⟨rfl, hb⟩

end Go.Proofs.YtliihnkonakacaaGreatDoor.B8
