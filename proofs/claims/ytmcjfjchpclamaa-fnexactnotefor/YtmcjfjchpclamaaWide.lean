/- Blocks of many cells, read and written at one go: whatever the number of cells. -/
import Derived.Test.YtmcjfjchpclamaaLoc
import Derived.Laws.Rows
import Derived.Laws.Tables
import Derived.Laws.Cells
import Derived.Laws.ResultCell
namespace Go.Proofs.Ytmcjfjchpclamaa.W8
open Go.Proofs.Ytmcjfjchpclamaa.B1 Go.Proofs.Ytmcjfjchpclamaa.D1
open Go.ChangeShapes Go.WideShapes Go.ChangeAt Go.RowKit
set_option linter.unusedVariables false

/-- A type of n cells that is a struct or an array. -/
def wideT (P : Program) (ty : TypeId) (n : Nat) : Bool := (match P.underlying ty with | some (.struct _) => true | some (.array _ _) => true | _ => false) && (P.info? ty).map (·.size) == some n

theorem add_lit (b o j : Nat) : (⟨b, o, none⟩ : Addr).add j = ⟨b, o + j, none⟩ := by unfold Addr.add; split <;> simp_all

/-- A load of many cells. -/
theorem load_cells {P : Program} {ty : TypeId} {b o : Nat} {vs : List Value} {w : World} (ht : wideT P ty vs.length = true) (h : ∀ j v, vs[j]? = some v → w.cell? ⟨b, o + j, none⟩ = some v) : (loadVar ty ⟨b, o, none⟩).run P w = .ok (.agg vs.toArray) w := by
  unfold wideT at ht
  rw [Bool.and_eq_true] at ht
  obtain ⟨h1, h2⟩ := ht
  have hl : (loadCells ⟨b, o, none⟩ vs.length).run P w = .ok vs.toArray w := run_loadCells_list (P := P) w ⟨b, o, none⟩ vs (fun j v hv => by rw [add_lit]; exact h j v hv)
  cases hq : P.info? ty with
  | none => simp [hq] at h2
  | some i =>
    have hs : i.size = vs.length := by simpa [hq] using h2
    have hagg : (isAgg ty).run P w = .ok true w := by
      unfold isAgg
      cases hu : P.underlying ty with
      | none => rw [hu] at h1; cases h1
      | some d =>
        rw [hu] at h1
        rw [Sem.run_bind, run_underlying hu w]
        cases d <;> simp_all
    simp [loadVar, Sem.run_bind, hagg, sizeOf, typeInfo, hq, hs, hl]

/-- A load of a whole block. -/
theorem load_blk {P : Program} {ty : TypeId} {b : Nat} {vs : List Value} {w : World} (h : LBlk w b vs) (ht : wideT P ty vs.length = true) : (loadVar ty ⟨b, 0, none⟩).run P w = .ok (.agg vs.toArray) w :=
  load_cells ht fun j v hv => by rw [Nat.zero_add]; exact (h.2 j v hv).1

/-- A load of a stretch of a block. -/
theorem load_part {P : Program} {ty : TypeId} {b o : Nat} {all vs : List Value} {w : World} (h : LBlk w b all) (ht : wideT P ty vs.length = true) (hs : (all.drop o).take vs.length = vs) : (loadVar ty ⟨b, o, none⟩).run P w = .ok (.agg vs.toArray) w :=
  load_cells ht fun j v hv => by
    refine (h.2 (o + j) v ?_).1
    have hj : j < vs.length := (List.getElem?_eq_some_iff.1 hv).1
    rw [← hs, List.getElem?_take, if_pos hj, List.getElem?_drop] at hv
    exact hv

theorem store_from {P : Program} {b : Nat} : ∀ (vs : List Value) (i : Nat) (cur : List Value) (w : World), LBlk w b cur → i + vs.length ≤ cur.length → (∀ v ∈ vs, v.oneCell' = true) →
    ∃ w', (storeCells ⟨b, 0, none⟩ vs i).run P w = .ok () w' ∧ LBlk w' b (cur.take i ++ vs ++ cur.drop (i + vs.length)) ∧ Only b w w' ∧ w'.heap.size = w.heap.size
  | [], i, cur, w, h, hl, _ => ⟨w, rfl, by simpa using h, Only.refl _ _, rfl⟩
  | v :: rest, i, cur, w, h, hl, h1 => by
    have hi : i < cur.length := by simp at hl; omega
    obtain ⟨hc, hf⟩ := h.2 i cur[i] (List.getElem?_eq_getElem hi)
    have hst : (store ((⟨b, 0, none⟩ : Addr).add i) v).run P w = .ok () (w.setCell ⟨b, i, none⟩ v) := by
      rw [add_lit, Nat.zero_add, run_store P w _ v _ (h1 v (by simp)), hc]
      simp [hf]
    obtain ⟨w', e, hl', ho, hs⟩ := store_from (P := P) rest (i + 1) (cur.set i v) (w.setCell ⟨b, i, none⟩ v) (h.set i v hi) (by simp at hl ⊢; omega) (fun x hx => h1 x (by simp [hx]))
    refine ⟨w', ?_, ?_, ((Only.refl b w).setCell rfl v).trans ho, by rw [hs]; simp [World.setCell]⟩
    · simp only [storeCells, Sem.run_bind, hst, Result.andThen_ok, e]
    · have he : (cur.set i v).take (i + 1) ++ rest ++ (cur.set i v).drop (i + 1 + rest.length) = cur.take i ++ (v :: rest) ++ cur.drop (i + (v :: rest).length) := by
        apply List.ext_getElem?
        intro k
        simp only [List.length_cons, List.getElem?_append, List.length_append, List.length_take, List.length_set, List.getElem?_take, List.getElem?_set, List.getElem?_drop]
        by_cases hk : k < i
        · simp [hk, show k < i + 1 by omega, show k < min (i + 1) cur.length by omega, show k < min (i + 1) cur.length + rest.length by omega, show k < min i cur.length by omega, show k < min i cur.length + (rest.length + 1) by omega, show i ≠ k by omega]
        · by_cases hk2 : k = i
          · subst hk2
            simp [show min (k + 1) cur.length = k + 1 by omega, show min k cur.length = k by omega, hi, show k < k + 1 + rest.length by omega]
          · by_cases hk3 : k < i + 1 + rest.length
            · simp [show min (i + 1) cur.length = i + 1 by omega, show min i cur.length = i by omega, hk3, show ¬ k < i + 1 by omega, hk, show k < i + (rest.length + 1) by omega, show k - i = (k - (i + 1)) + 1 by omega]
            · simp [show min (i + 1) cur.length = i + 1 by omega, show min i cur.length = i by omega, hk3, show ¬ k < i + (rest.length + 1) by omega, show ¬ i = i + 1 + rest.length + (k - (i + 1 + rest.length)) by omega]
              congr 1
              omega
      rw [he] at hl'
      exact hl'

/-- A store over a whole block. -/
theorem store_blk {P : Program} {ty : TypeId} {b : Nat} {old vs : List Value} {w : World} (h : LBlk w b old) (ht : wideT P ty vs.length = true) (hl : old.length = vs.length) (h1 : vs.all (·.oneCell') = true) : ∃ w', (storeVar ty ⟨b, 0, none⟩ (.agg vs.toArray)).run P w = .ok () w' ∧ LBlk w' b vs ∧ Only b w w' ∧ w'.heap.size = w.heap.size := by
  obtain ⟨w', e, hl', ho, hs⟩ := store_from (P := P) vs 0 old w h (by omega) (fun v hv => List.all_eq_true.1 h1 v hv)
  rw [Nat.zero_add, List.take_zero, List.nil_append, List.drop_of_length_le (by omega), List.append_nil] at hl'
  refine ⟨w', ?_, hl', ho, hs⟩
  unfold wideT at ht
  rw [Bool.and_eq_true] at ht
  obtain ⟨_, h2⟩ := ht
  cases hq : P.info? ty with
  | none => simp [hq] at h2
  | some i =>
    have hs : vs.length = i.size := by simp [hq] at h2; omega
    simp [storeVar, sizeOf, typeInfo, hq, Value.cells, hs, e]

section
variable {P : Program} {ops : Array Oper} {Q : Exit → Act → World → Prop} {a : Act} {w w' : World} {rest : List Oper} {o : Oper}

theorem wpList_load_eq {ty : TypeId} {x : Operand} {p : Addr} {v : Value} (hr : (loadVar ty p).run P w = .ok v w') (hg : o.guard = none) (ho : o.op = .load ty x) (hx : a.eval x = .pointer (some p)) (h : wpList P ops Q rest (a.put o.dst v) w') : wpList P ops Q (o :: rest) a w := by
  refine wpList_plain hg fun K hK => ?_
  unfold Oper.wp execOp
  simp only [ho, hx, Instr.loadAt, Instr.sureAddr, Sem.run_bind, Sem.run_pure, Result.andThen_ok, hr]
  exact hK _ _ h

theorem wpList_store_eq {ty : TypeId} {x y : Operand} {p : Addr} {v : Value} (hr : (storeVar ty p v).run P w = .ok () w') (hg : o.guard = none) (ho : o.op = .store ty x y) (hx : a.eval x = .pointer (some p)) (hy : a.eval y = v) (h : wpList P ops Q rest (a.put o.dst undef) w') : wpList P ops Q (o :: rest) a w := by
  refine wpList_plain hg fun K hK => ?_
  unfold Oper.wp execOp
  simp only [ho, hx, hy, Instr.storeAt, Instr.sureAddr, Sem.run_bind, Sem.run_pure, Result.andThen_ok, hr]
  exact hK _ _ h
end

/-- A result that lies in a cell, and a second one in a slot. -/
theorem results_wide2 {P : Program} {fn : Func} {p u : Tmp} {ty : TypeId} {tmps : Array Value} {w : World} {ad : Addr} {v : Value} (hr : (loadVar ty ad).run P w = .ok v w) (h : fn.results = #[.cell p ty, .tmp u]) (hp : tmps.getD p undef = .pointer (some ad)) : (results fn tmps).run P w = .ok (.tuple #[v, tmps.getD u undef]) w := by
  rw [results_cell_tmp h, hp]
  simp [asAddr, Result.andThen, hr]

/-- One result, that lies in a cell. -/
theorem results_wide {P : Program} {fn : Func} {p : Tmp} {ty : TypeId} {tmps : Array Value} {w : World} {ad : Addr} {v : Value} (hr : (loadVar ty ad).run P w = .ok v w) (h : fn.results = #[.cell p ty]) (hp : tmps.getD p undef = .pointer (some ad)) : (results fn tmps).run P w = .ok v w := by
  have hp' : tmps[p]?.getD undef = .pointer (some ad) := by simpa using hp
  simp [results, h, hp', asAddr, hr]

end Go.Proofs.Ytmcjfjchpclamaa.W8
