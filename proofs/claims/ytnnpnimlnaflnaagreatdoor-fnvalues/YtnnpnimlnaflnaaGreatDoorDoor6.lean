/- From what a row lists of the package's variables to what the walks of chapter 6 ask of them. -/
import Derived.Test.YtnnpnimlnaflnaaGreatDoorRows
import Derived.Test.YtnnpnimlnaflnaaGreatDoorImp5f
import Derived.LaidLaws
import Derived.OpenShut
import Derived.Lib.LaidTab
import Derived.Shelf.Vars
import Derived.Stop.Joined
import Derived.MakeChecks
namespace Go.Proofs.YtnnpnimlnaflnaaGreatDoor.B6
open Go.Proofs.YtnnpnimlnaflnaaGreatDoor.B5
open Go.ChangeShapes Go.WideShapes Go.ChangeAt Go.RowKit
set_option linter.unusedVariables false
set_option maxRecDepth 100000

theorem laid_values {W : World} (h : laidMetH Tryz.prog Rows.fnValuesRow.laid W) : Pow W := by
  have _hf : Nat := 3
  rw [MakeChecks.laidMetH_plain _ _ _ (by kernel_rfl)] at h
  obtain ⟨ps, ⟨ga, ta, csa, fa, pa, qa, hga, hta, hva, hda, ⟨gb, tb, csb, fb, pb, qb, hgb, htb, hvb, hdb, ⟨gc, tc, csc, fc, pc, qc, hgc, htc, hvc, hdc, _, _⟩, _⟩, _⟩, _, _⟩ := h
  obtain rfl := Option.some.inj (name_pow.symm.trans hgc)
  obtain rfl := Option.some.inj ((show (Tryz.prog.globals[2]?).map (·.type) = some 120 by kernel_rfl).symm.trans htc)
  unfold B5.Pow Lib.TabIs
  rw [hvc, ← Lib.cells_of_tab (zs := Lib.pow10Tab) Tryz.underlying120 Tryz.underlying98 (by kernel_rfl) (by kernel_rfl) hdc]

end Go.Proofs.YtnnpnimlnaflnaaGreatDoor.B6
