/- From what a row lists of the package's variables to what the walks of chapter 4 ask of them. -/
import Derived.Test.YtmaagcmbofedhaaDoorRows
import Derived.Test.YtmaagcmbofedhaaDoorDoor4r
import Derived.LaidLaws
import Derived.OpenShut
import Derived.Lib.LaidTab
import Derived.Shelf.Vars
import Derived.Stop.Joined
import Derived.MakeChecks
namespace Go.Proofs.YtmaagcmbofedhaaDoor.B4
open Go.Proofs.YtmaagcmbofedhaaDoor.P4
open Go.ChangeShapes Go.WideShapes Go.ChangeAt Go.RowKit
set_option linter.unusedVariables false
set_option maxRecDepth 100000

/-- An array of texts that reads as the list holds these texts. -/
theorem texts_of_trod {H : Type} {enc : TypeId × Value → H} {P : Program} {w : World} {base : Nat} {sp : Nat → Bool} {held : Bool} {fuel : Nat} {t e : TypeId} {n : Nat} {cs : List Value} {ls : List (List UInt8)} {p : List MemPlace}
    (ht : P.underlying t = some (.array n e)) (he : P.underlying e = some .string) (hce : P.cellsOf e = 1)
    (h : DataW.trod enc P w base sp held fuel t cs = some (.agg (ls.map fun l => .lit (.string l)), p)) {k : Nat} {l : List UInt8} (hk : ls[k]? = some l) : cs[k]? = some (.string ⟨l.toArray⟩) := by
  obtain ⟨xs, m, _, ex, _, hl, hel⟩ := DataW.trod_array ht h
  have e3 : xs.map (·.1) = ls.map fun l => (DataW.lit (.string l) : DataW H) := (DataW.agg.inj (Prod.mk.inj ex).1).symm
  have hlen : xs.length = ls.length := by have := congrArg List.length e3; simpa using this
  have hkl := (List.getElem?_eq_some_iff.1 hk).1
  have hE := hel k (by omega)
  rw [hce, Nat.mul_one, List.getElem?_eq_getElem (by omega)] at hE
  obtain ⟨s, e1, e2, _⟩ := DataW.trod_string he hE
  have e4 : (xs.map (·.1))[k]? = (ls.map fun l => (DataW.lit (.string l) : DataW H))[k]? := by rw [e3]
  rw [List.getElem?_map, List.getElem?_map, List.getElem?_eq_getElem (by omega : k < xs.length), hk, e2] at e4
  simp only [Option.map_some, Option.some.injEq, DataW.lit.injEq, Lit.string.injEq] at e4
  have h0 : ((cs.drop k).take 1)[0]? = some (.string s) := by rw [e1]; rfl
  have h1 : cs[k]? = some (.string s) := by simpa using h0
  rw [h1, ← e4]

theorem laid_show {W : World} (h : laidMetH Tryd.prog Rows.fnExactShowEaseRow.laid W) : Laid W := by
  rw [MakeChecks.laidMetH_plain _ _ _ (by kernel_rfl)] at h
  obtain ⟨ps, ⟨ga, ta, csa, fa, pa, qa, hga, hta, hva, hda, ⟨gb, tb, csb, fb, pb, qb, hgb, htb, hvb, hdb, ⟨gc, tc, csc, fc, pc, qc, hgc, htc, hvc, hdc, ⟨gd, td, csd, fd, pd, qd, hgd, htd, hvd, hdd, _, _⟩, _⟩, _⟩, _⟩, _, _⟩ := h
  obtain rfl := Option.some.inj (named_pow.symm.trans hgc)
  obtain rfl := Option.some.inj (named_jump.symm.trans hgd)
  obtain rfl := Option.some.inj ((show (Tryd.prog.globals[1]?).map (·.type) = some 123 by kernel_rfl).symm.trans htc)
  obtain rfl := Option.some.inj ((show (Tryd.prog.globals[0]?).map (·.type) = some 47 by kernel_rfl).symm.trans htd)
  refine ⟨?_, fun k l hk => ?_⟩
  · unfold Lib.TabIs
    rw [hvc, ← Lib.cells_of_tab (zs := Lib.pow10Tab) Tryd.underlying123 Tryd.underlying108 (by kernel_rfl) (by kernel_rfl) hdc]
  · rw [World.var?_cell named_jump hvd k]
    have := texts_of_trod (ls := jumpTab) Tryd.underlying47 Tryd.underlying9 (by kernel_rfl) hdd hk
    simpa using this

theorem laid_read {W : World} (h : laidMetH Tryd.prog Rows.fnExactReadEaseRow.laid W) (hs : W.ShapedOpen Tryd.prog) : LaidR W := by
  rw [MakeChecks.laidMetH_plain _ _ _ (by kernel_rfl)] at h
  obtain ⟨ps, ⟨ga, ta, csa, fa, pa, qa, hga, hta, hva, hda, ⟨gb, tb, csb, fb, pb, qb, hgb, htb, hvb, hdb, ⟨gc, tc, csc, fc, pc, qc, hgc, htc, hvc, hdc, ⟨ge, te, cse, fe, pe, qe, hge, hte, hve, hde, ⟨gf, tf, csf, ff, pf, qf, hgf, htf, hvf, hdf, ⟨gg, tg, csg, fg, pg, qg, hgg, htg, hvg, hdg, ⟨gd, td, csd, fd, pd, qd, hgd, htd, hvd, hdd, _, _⟩, _⟩, _⟩, _⟩, _⟩, _⟩, _⟩, _, _⟩ := h
  obtain rfl := Option.some.inj (named_pow.symm.trans hgc)
  obtain rfl := Option.some.inj (named_jump.symm.trans hgd)
  obtain rfl := Option.some.inj ((show (Tryd.prog.globals[1]?).map (·.type) = some 123 by kernel_rfl).symm.trans htc)
  obtain rfl := Option.some.inj ((show (Tryd.prog.globals[0]?).map (·.type) = some 47 by kernel_rfl).symm.trans htd)
  obtain rfl := Option.some.inj (named_rng.symm.trans hgf)
  obtain rfl := Option.some.inj (named_syn.symm.trans hgg)
  obtain rfl := Option.some.inj ((show (Tryd.prog.globals[4]?).map (·.type) = some 79 by kernel_rfl).symm.trans htf)
  obtain rfl := Option.some.inj ((show (Tryd.prog.globals[3]?).map (·.type) = some 79 by kernel_rfl).symm.trans htg)
  refine ⟨⟨?_, fun k l hk => ?_⟩, cell_of_shapedOpen_int (t := 3) (zero := #[.int .i64 0]) hs (of_decide_eq_true (by kernel_rfl)) (by kernel_rfl) rfl (by kernel_rfl) (by kernel_rfl) Tryd.underlying3, ?_, ?_⟩
  · unfold Lib.TabIs
    rw [hvc, ← Lib.cells_of_tab (zs := Lib.pow10Tab) Tryd.underlying123 Tryd.underlying108 (by kernel_rfl) (by kernel_rfl) hdc]
  · rw [World.var?_cell named_jump hvd k]
    have := texts_of_trod (ls := jumpTab) Tryd.underlying47 Tryd.underlying9 (by kernel_rfl) hdd hk
    simpa using this
  · obtain ⟨f1, u, v, e, _, _⟩ := iface_of_trod Tryd.underlying79 hdg
    exact ⟨u, v, by rw [hvg]; cases csg; simpa using e⟩
  · obtain ⟨f1, u, v, e, _, _⟩ := iface_of_trod Tryd.underlying79 hdf
    exact ⟨u, v, by rw [hvf]; cases csf; simpa using e⟩

end Go.Proofs.YtmaagcmbofedhaaDoor.B4
