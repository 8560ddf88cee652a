/- From what a row lists of the package's variables to what the walks of chapter 11 ask of them. -/
import Derived.Test.YtgaggpnlimchkaaGreatDoorRows
import Derived.Test.YtgaggpnlimchkaaGreatDoorImp5f
import Derived.LaidLaws
import Derived.OpenShut
import Derived.Lib.LaidTab
import Derived.Shelf.Vars
import Derived.Stop.Joined
import Derived.MakeChecks
namespace Go.Proofs.YtgaggpnlimchkaaGreatDoor.B11
open Go.Proofs.YtgaggpnlimchkaaGreatDoor.B5
open Go.ChangeShapes Go.WideShapes Go.ChangeAt Go.RowKit
set_option linter.unusedVariables false
set_option maxRecDepth 100000

theorem laid_trees {W : World} (h : laidMetH Tryz.prog Rows.fnTreesRow.laid W) : Pow W := by
  have _hf : Nat := 3
  rw [MakeChecks.laidMetH_plain _ _ _ (by kernel_rfl)] at h
  obtain ⟨ps, ⟨ga, ta, csa, fa, pa, qa, hga, hta, hva, hda, ⟨gb, tb, csb, fb, pb, qb, hgb, htb, hvb, hdb, ⟨gc, tc, csc, fc, pc, qc, hgc, htc, hvc, hdc, _, _⟩, _⟩, _⟩, _, _⟩ := h
  obtain rfl := Option.some.inj (name_pow.symm.trans hgc)
  obtain rfl := Option.some.inj ((show (Tryz.prog.globals[2]?).map (·.type) = some 232 by kernel_rfl).symm.trans htc)
  unfold B5.Pow Lib.TabIs
  rw [hvc, ← Lib.cells_of_tab (zs := Lib.pow10Tab) Tryz.underlying232 Tryz.underlying196 (by kernel_rfl) (by kernel_rfl) hdc]

theorem laid_meets {W : World} (h : laidMetH Tryz.prog Rows.fnMeetsRow.laid W) : Pow W := by
  have _hf : Nat := 4
  rw [MakeChecks.laidMetH_plain _ _ _ (by kernel_rfl)] at h
  obtain ⟨ps, ⟨ga, ta, csa, fa, pa, qa, hga, hta, hva, hda, ⟨gb, tb, csb, fb, pb, qb, hgb, htb, hvb, hdb, ⟨gc, tc, csc, fc, pc, qc, hgc, htc, hvc, hdc, _, _⟩, _⟩, _⟩, _, _⟩ := h
  obtain rfl := Option.some.inj (name_pow.symm.trans hgc)
  obtain rfl := Option.some.inj ((show (Tryz.prog.globals[2]?).map (·.type) = some 232 by kernel_rfl).symm.trans htc)
  unfold B5.Pow Lib.TabIs
  rw [hvc, ← Lib.cells_of_tab (zs := Lib.pow10Tab) Tryz.underlying232 Tryz.underlying196 (by kernel_rfl) (by kernel_rfl) hdc]

theorem laid_exactTreeOk {W : World} (h : laidMetH Tryz.prog Rows.fnExactTreeOkRow.laid W) : Pow W := by
  have _hf : Nat := 5
  rw [MakeChecks.laidMetH_plain _ _ _ (by kernel_rfl)] at h
  obtain ⟨ps, ⟨ga, ta, csa, fa, pa, qa, hga, hta, hva, hda, ⟨gb, tb, csb, fb, pb, qb, hgb, htb, hvb, hdb, ⟨gc, tc, csc, fc, pc, qc, hgc, htc, hvc, hdc, _, _⟩, _⟩, _⟩, _, _⟩ := h
  obtain rfl := Option.some.inj (name_pow.symm.trans hgc)
  obtain rfl := Option.some.inj ((show (Tryz.prog.globals[2]?).map (·.type) = some 232 by kernel_rfl).symm.trans htc)
  unfold B5.Pow Lib.TabIs
  rw [hvc, ← Lib.cells_of_tab (zs := Lib.pow10Tab) Tryz.underlying232 Tryz.underlying196 (by kernel_rfl) (by kernel_rfl) hdc]

theorem laid_exactGrown {W : World} (h : laidMetH Tryz.prog Rows.fnExactGrownRow.laid W) : Pow W := by
  have _hf : Nat := 6
  rw [MakeChecks.laidMetH_plain _ _ _ (by kernel_rfl)] at h
  obtain ⟨ps, ⟨ga, ta, csa, fa, pa, qa, hga, hta, hva, hda, ⟨gb, tb, csb, fb, pb, qb, hgb, htb, hvb, hdb, ⟨gc, tc, csc, fc, pc, qc, hgc, htc, hvc, hdc, _, _⟩, _⟩, _⟩, _, _⟩ := h
  obtain rfl := Option.some.inj (name_pow.symm.trans hgc)
  obtain rfl := Option.some.inj ((show (Tryz.prog.globals[2]?).map (·.type) = some 232 by kernel_rfl).symm.trans htc)
  unfold B5.Pow Lib.TabIs
  rw [hvc, ← Lib.cells_of_tab (zs := Lib.pow10Tab) Tryz.underlying232 Tryz.underlying196 (by kernel_rfl) (by kernel_rfl) hdc]

theorem laid_exactPath {W : World} (h : laidMetH Tryz.prog Rows.fnExactPathRow.laid W) : Pow W := by
  have _hf : Nat := 7
  rw [MakeChecks.laidMetH_plain _ _ _ (by kernel_rfl)] at h
  obtain ⟨ps, ⟨ga, ta, csa, fa, pa, qa, hga, hta, hva, hda, ⟨gb, tb, csb, fb, pb, qb, hgb, htb, hvb, hdb, ⟨gc, tc, csc, fc, pc, qc, hgc, htc, hvc, hdc, _, _⟩, _⟩, _⟩, _, _⟩ := h
  obtain rfl := Option.some.inj (name_pow.symm.trans hgc)
  obtain rfl := Option.some.inj ((show (Tryz.prog.globals[2]?).map (·.type) = some 232 by kernel_rfl).symm.trans htc)
  unfold B5.Pow Lib.TabIs
  rw [hvc, ← Lib.cells_of_tab (zs := Lib.pow10Tab) Tryz.underlying232 Tryz.underlying196 (by kernel_rfl) (by kernel_rfl) hdc]

theorem laid_exactMeets {W : World} (h : laidMetH Tryz.prog Rows.fnExactMeetsRow.laid W) : Pow W := by
  have _hf : Nat := 8
  rw [MakeChecks.laidMetH_plain _ _ _ (by kernel_rfl)] at h
  obtain ⟨ps, ⟨ga, ta, csa, fa, pa, qa, hga, hta, hva, hda, ⟨gb, tb, csb, fb, pb, qb, hgb, htb, hvb, hdb, ⟨gc, tc, csc, fc, pc, qc, hgc, htc, hvc, hdc, _, _⟩, _⟩, _⟩, _, _⟩ := h
  obtain rfl := Option.some.inj (name_pow.symm.trans hgc)
  obtain rfl := Option.some.inj ((show (Tryz.prog.globals[2]?).map (·.type) = some 232 by kernel_rfl).symm.trans htc)
  unfold B5.Pow Lib.TabIs
  rw [hvc, ← Lib.cells_of_tab (zs := Lib.pow10Tab) Tryz.underlying232 Tryz.underlying196 (by kernel_rfl) (by kernel_rfl) hdc]

end Go.Proofs.YtgaggpnlimchkaaGreatDoor.B11
