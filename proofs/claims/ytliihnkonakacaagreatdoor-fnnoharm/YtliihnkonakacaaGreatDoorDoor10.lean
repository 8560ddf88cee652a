/- From what a row lists of the package's variables to what the walks of chapters 9 and 10 ask of them. -/
import Derived.Test.YtliihnkonakacaaGreatDoorRows
import Derived.Test.YtliihnkonakacaaGreatDoorImp5f
import Derived.LaidLaws
import Derived.OpenShut
import Derived.Lib.LaidTab
import Derived.Shelf.Vars
import Derived.Stop.Joined
import Derived.MakeChecks
namespace Go.Proofs.YtliihnkonakacaaGreatDoor.B10
open Go.Proofs.YtliihnkonakacaaGreatDoor.B5
open Go.ChangeShapes Go.WideShapes Go.ChangeAt Go.RowKit
set_option linter.unusedVariables false
set_option maxRecDepth 100000

theorem laid_picks {W : World} (h : laidMetH Tryz.prog Rows.fnPicksRow.laid W) : Pow W := by
  have _hf : Nat := 3
  rw [MakeChecks.laidMetH_plain _ _ _ (by kernel_rfl)] at h
  obtain ⟨ps, ⟨ga, ta, csa, fa, pa, qa, hga, hta, hva, hda, ⟨gb, tb, csb, fb, pb, qb, hgb, htb, hvb, hdb, ⟨gc, tc, csc, fc, pc, qc, hgc, htc, hvc, hdc, _, _⟩, _⟩, _⟩, _, _⟩ := h
  obtain rfl := Option.some.inj (name_pow.symm.trans hgc)
  obtain rfl := Option.some.inj ((show (Tryz.prog.globals[3]?).map (·.type) = some 251 by kernel_rfl).symm.trans htc)
  unfold B5.Pow Lib.TabIs
  rw [hvc, ← Lib.cells_of_tab (zs := Lib.pow10Tab) Tryz.underlying251 Tryz.underlying207 (by kernel_rfl) (by kernel_rfl) hdc]

theorem laid_weights {W : World} (h : laidMetH Tryz.prog Rows.fnWeightsRow.laid W) : Pow W := by
  have _hf : Nat := 4
  rw [MakeChecks.laidMetH_plain _ _ _ (by kernel_rfl)] at h
  obtain ⟨ps, ⟨ga, ta, csa, fa, pa, qa, hga, hta, hva, hda, ⟨gb, tb, csb, fb, pb, qb, hgb, htb, hvb, hdb, ⟨gc, tc, csc, fc, pc, qc, hgc, htc, hvc, hdc, _, _⟩, _⟩, _⟩, _, _⟩ := h
  obtain rfl := Option.some.inj (name_pow.symm.trans hgc)
  obtain rfl := Option.some.inj ((show (Tryz.prog.globals[3]?).map (·.type) = some 251 by kernel_rfl).symm.trans htc)
  unfold B5.Pow Lib.TabIs
  rw [hvc, ← Lib.cells_of_tab (zs := Lib.pow10Tab) Tryz.underlying251 Tryz.underlying207 (by kernel_rfl) (by kernel_rfl) hdc]

theorem laid_exactPickOk {W : World} (h : laidMetH Tryz.prog Rows.fnExactPickOkRow.laid W) : Pow W := by
  have _hf : Nat := 5
  rw [MakeChecks.laidMetH_plain _ _ _ (by kernel_rfl)] at h
  obtain ⟨ps, ⟨ga, ta, csa, fa, pa, qa, hga, hta, hva, hda, ⟨gb, tb, csb, fb, pb, qb, hgb, htb, hvb, hdb, ⟨gc, tc, csc, fc, pc, qc, hgc, htc, hvc, hdc, _, _⟩, _⟩, _⟩, _, _⟩ := h
  obtain rfl := Option.some.inj (name_pow.symm.trans hgc)
  obtain rfl := Option.some.inj ((show (Tryz.prog.globals[3]?).map (·.type) = some 251 by kernel_rfl).symm.trans htc)
  unfold B5.Pow Lib.TabIs
  rw [hvc, ← Lib.cells_of_tab (zs := Lib.pow10Tab) Tryz.underlying251 Tryz.underlying207 (by kernel_rfl) (by kernel_rfl) hdc]

theorem laid_exactShowPick {W : World} (h : laidMetH Tryz.prog Rows.fnExactShowPickRow.laid W) : Pow W := by
  have _hf : Nat := 6
  rw [MakeChecks.laidMetH_plain _ _ _ (by kernel_rfl)] at h
  obtain ⟨ps, ⟨ga, ta, csa, fa, pa, qa, hga, hta, hva, hda, ⟨gb, tb, csb, fb, pb, qb, hgb, htb, hvb, hdb, ⟨gc, tc, csc, fc, pc, qc, hgc, htc, hvc, hdc, _, _⟩, _⟩, _⟩, _, _⟩ := h
  obtain rfl := Option.some.inj (name_pow.symm.trans hgc)
  obtain rfl := Option.some.inj ((show (Tryz.prog.globals[3]?).map (·.type) = some 251 by kernel_rfl).symm.trans htc)
  unfold B5.Pow Lib.TabIs
  rw [hvc, ← Lib.cells_of_tab (zs := Lib.pow10Tab) Tryz.underlying251 Tryz.underlying207 (by kernel_rfl) (by kernel_rfl) hdc]

theorem laid_exactReadPick {W : World} (h : laidMetH Tryz.prog Rows.fnExactReadPickRow.laid W) : Pow W := by
  have _hf : Nat := 7
  rw [MakeChecks.laidMetH_plain _ _ _ (by kernel_rfl)] at h
  obtain ⟨ps, ⟨ga, ta, csa, fa, pa, qa, hga, hta, hva, hda, ⟨gb, tb, csb, fb, pb, qb, hgb, htb, hvb, hdb, ⟨gc, tc, csc, fc, pc, qc, hgc, htc, hvc, hdc, _, _⟩, _⟩, _⟩, _, _⟩ := h
  obtain rfl := Option.some.inj (name_pow.symm.trans hgc)
  obtain rfl := Option.some.inj ((show (Tryz.prog.globals[3]?).map (·.type) = some 251 by kernel_rfl).symm.trans htc)
  unfold B5.Pow Lib.TabIs
  rw [hvc, ← Lib.cells_of_tab (zs := Lib.pow10Tab) Tryz.underlying251 Tryz.underlying207 (by kernel_rfl) (by kernel_rfl) hdc]

theorem laid_exactWeightOf {W : World} (h : laidMetH Tryz.prog Rows.fnExactWeightOfRow.laid W) : Pow W := by
  have _hf : Nat := 8
  rw [MakeChecks.laidMetH_plain _ _ _ (by kernel_rfl)] at h
  obtain ⟨ps, ⟨ga, ta, csa, fa, pa, qa, hga, hta, hva, hda, ⟨gb, tb, csb, fb, pb, qb, hgb, htb, hvb, hdb, ⟨gc, tc, csc, fc, pc, qc, hgc, htc, hvc, hdc, _, _⟩, _⟩, _⟩, _, _⟩ := h
  obtain rfl := Option.some.inj (name_pow.symm.trans hgc)
  obtain rfl := Option.some.inj ((show (Tryz.prog.globals[3]?).map (·.type) = some 251 by kernel_rfl).symm.trans htc)
  unfold B5.Pow Lib.TabIs
  rw [hvc, ← Lib.cells_of_tab (zs := Lib.pow10Tab) Tryz.underlying251 Tryz.underlying207 (by kernel_rfl) (by kernel_rfl) hdc]

theorem laid_notes {W : World} (h : laidMetH Tryz.prog Rows.fnNotesRow.laid W) : Pow W := by
  have _hf : Nat := 9
  rw [MakeChecks.laidMetH_plain _ _ _ (by kernel_rfl)] at h
  obtain ⟨ps, ⟨ga, ta, csa, fa, pa, qa, hga, hta, hva, hda, ⟨gb, tb, csb, fb, pb, qb, hgb, htb, hvb, hdb, ⟨gc, tc, csc, fc, pc, qc, hgc, htc, hvc, hdc, _, _⟩, _⟩, _⟩, _, _⟩ := h
  obtain rfl := Option.some.inj (name_pow.symm.trans hgc)
  obtain rfl := Option.some.inj ((show (Tryz.prog.globals[3]?).map (·.type) = some 251 by kernel_rfl).symm.trans htc)
  unfold B5.Pow Lib.TabIs
  rw [hvc, ← Lib.cells_of_tab (zs := Lib.pow10Tab) Tryz.underlying251 Tryz.underlying207 (by kernel_rfl) (by kernel_rfl) hdc]

theorem laid_noHarm {W : World} (h : laidMetH Tryz.prog Rows.fnNoHarmRow.laid W) : Pow W := by
  have _hf : Nat := 10
  rw [MakeChecks.laidMetH_plain _ _ _ (by kernel_rfl)] at h
  obtain ⟨ps, ⟨ga, ta, csa, fa, pa, qa, hga, hta, hva, hda, ⟨gb, tb, csb, fb, pb, qb, hgb, htb, hvb, hdb, ⟨gc, tc, csc, fc, pc, qc, hgc, htc, hvc, hdc, _, _⟩, _⟩, _⟩, _, _⟩ := h
  obtain rfl := Option.some.inj (name_pow.symm.trans hgc)
  obtain rfl := Option.some.inj ((show (Tryz.prog.globals[3]?).map (·.type) = some 251 by kernel_rfl).symm.trans htc)
  unfold B5.Pow Lib.TabIs
  rw [hvc, ← Lib.cells_of_tab (zs := Lib.pow10Tab) Tryz.underlying251 Tryz.underlying207 (by kernel_rfl) (by kernel_rfl) hdc]

end Go.Proofs.YtliihnkonakacaaGreatDoor.B10
