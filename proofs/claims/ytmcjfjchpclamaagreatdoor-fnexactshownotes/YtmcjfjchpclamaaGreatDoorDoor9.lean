/- From what a row lists of the package's variables to what the walks of chapter 9 ask of them. -/
import Derived.Test.YtmcjfjchpclamaaGreatDoorRows
import Derived.Test.YtmcjfjchpclamaaGreatDoorImp5f
import Derived.LaidLaws
import Derived.OpenShut
import Derived.Lib.LaidTab
import Derived.Shelf.Vars
import Derived.Stop.Joined
import Derived.MakeChecks
namespace Go.Proofs.YtmcjfjchpclamaaGreatDoor.B9
open Go.Proofs.YtmcjfjchpclamaaGreatDoor.B5
open Go.ChangeShapes Go.WideShapes Go.ChangeAt Go.RowKit
set_option linter.unusedVariables false
set_option maxRecDepth 100000

theorem laid_exactShowNotes {W : World} (h : laidMetH Tryz.prog Rows.fnExactShowNotesRow.laid W) : Pow W := by
  have _hf : Nat := 5
  rw [MakeChecks.laidMetH_plain _ _ _ (by kernel_rfl)] at h
  obtain ⟨ps, ⟨ga, ta, csa, fa, pa, qa, hga, hta, hva, hda, ⟨gb, tb, csb, fb, pb, qb, hgb, htb, hvb, hdb, ⟨gc, tc, csc, fc, pc, qc, hgc, htc, hvc, hdc, _, _⟩, _⟩, _⟩, _, _⟩ := h
  obtain rfl := Option.some.inj (name_pow.symm.trans hgc)
  obtain rfl := Option.some.inj ((show (Tryz.prog.globals[3]?).map (·.type) = some 200 by kernel_rfl).symm.trans htc)
  unfold B5.Pow Lib.TabIs
  rw [hvc, ← Lib.cells_of_tab (zs := Lib.pow10Tab) Tryz.underlying200 Tryz.underlying170 (by kernel_rfl) (by kernel_rfl) hdc]

end Go.Proofs.YtmcjfjchpclamaaGreatDoor.B9
