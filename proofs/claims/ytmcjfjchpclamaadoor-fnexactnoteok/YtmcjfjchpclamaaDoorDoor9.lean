/- From what a row lists of the package's variables to what the walks of chapter 9 ask of them. -/
import Derived.Test.YtmcjfjchpclamaaDoorRows
import Derived.Test.YtmcjfjchpclamaaDoorImp5f
import Derived.LaidLaws
import Derived.OpenShut
import Derived.Lib.LaidTab
import Derived.Shelf.Vars
import Derived.Stop.Joined
import Derived.MakeChecks
namespace Go.Proofs.YtmcjfjchpclamaaDoor.B9
open Go.Proofs.YtmcjfjchpclamaaDoor.B5
open Go.ChangeShapes Go.WideShapes Go.ChangeAt Go.RowKit
set_option linter.unusedVariables false
set_option maxRecDepth 100000

theorem laid_exactNoteOk {W : World} (h : laidMetH Tryd.prog Rows.fnExactNoteOkRow.laid W) : Pow W := by
  have _hf : Nat := 3
  rw [MakeChecks.laidMetH_plain _ _ _ (by kernel_rfl)] at h
  obtain ⟨ps, ⟨ga, ta, csa, fa, pa, qa, hga, hta, hva, hda, ⟨gb, tb, csb, fb, pb, qb, hgb, htb, hvb, hdb, ⟨gc, tc, csc, fc, pc, qc, hgc, htc, hvc, hdc, _, _⟩, _⟩, _⟩, _, _⟩ := h
  obtain rfl := Option.some.inj (name_pow.symm.trans hgc)
  obtain rfl := Option.some.inj ((show (Tryd.prog.globals[2]?).map (·.type) = some 109 by kernel_rfl).symm.trans htc)
  unfold B5.Pow Lib.TabIs
  rw [hvc, ← Lib.cells_of_tab (zs := Lib.pow10Tab) Tryd.underlying109 Tryd.underlying88 (by kernel_rfl) (by kernel_rfl) hdc]

end Go.Proofs.YtmcjfjchpclamaaDoor.B9
