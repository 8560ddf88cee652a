/- Rows of records, wherever they lie: read ('At', 'Slc'), written at one go; a record that is made and filled. -/
import Derived.Test.YtmcjfjchpclamaaRec
import Derived.Test.YtmcjfjchpclamaaWide
namespace Go.Proofs.Ytmcjfjchpclamaa.RC
open Go.Proofs.Ytmcjfjchpclamaa.D1 Go.Proofs.Ytmcjfjchpclamaa.W8 Go.Proofs.Ytmcjfjchpclamaa.B1
open Go.ChangeShapes Go.WideShapes Go.ChangeAt Go.RowKit
set_option linter.unusedVariables false

/-- From this place on these records lie, one behind the other. -/
structure At (m : Nat) (w : World) (g off : Nat) (rs : List (List Value)) : Prop where
  cells : ∀ i r, rs[i]? = some r → ∀ j v, r[j]? = some v → w.cell? ⟨g, off + i * m + j, none⟩ = some v
  lt : g < w.heap.size

theorem At.on {m : Nat} {w w' : World} {g off : Nat} {rs : List (List Value)} (h : At m w g off rs) (hb : Below w.heap.size w w') : At m w' g off rs :=
  ⟨fun i r hr j v hv => (hb.cell (p := ⟨g, off + i * m + j, none⟩) h.lt).trans (h.cells i r hr j v hv), Nat.lt_of_lt_of_le h.lt hb.size⟩

theorem At.under {m B : Nat} {w w' : World} {g off : Nat} {rs : List (List Value)} (h : At m w g off rs) (hb : Below B w w') (hg : g < B) : At m w' g off rs :=
  ⟨fun i r hr j v hv => (hb.cell (p := ⟨g, off + i * m + j, none⟩) hg).trans (h.cells i r hr j v hv), Nat.lt_of_lt_of_le h.lt hb.size⟩

theorem Row.at {m : Nat} {w : World} {g cap : Nat} {rs : List (List Value)} (h : Row m w g cap rs) : At m w g 0 rs :=
  ⟨fun i r hr j v hv => by rw [Nat.zero_add]; exact h.cells i r hr j v hv, h.lt⟩

/-- A slice of these records. -/
def Slc (m : Nat) (w : World) (v : Value) (rs : List (List Value)) : Prop := ∃ a cap, v = .slice a rs.length cap ∧ rs.length ≤ cap ∧ cap ≤ 9223372036854775807 ∧ (rs ≠ [] → ∃ g off, a = some ⟨g, off, none⟩ ∧ At m w g off rs)

theorem Slc.on {m : Nat} {w w' : World} {v : Value} {rs : List (List Value)} (h : Slc m w v rs) (hb : Below w.heap.size w w') : Slc m w' v rs := by
  obtain ⟨a, cap, e, h1, h2, h3⟩ := h
  exact ⟨a, cap, e, h1, h2, fun hne => by
    obtain ⟨g, off, ea, ha⟩ := h3 hne
    exact ⟨g, off, ea, ha.on hb⟩⟩

theorem Val.slc {m : Nat} {w : World} {v : Value} {rs : List (List Value)} (h : Val m w v rs) : Slc m w v rs := by
  obtain ⟨a, cap, e, h1, h2, h3⟩ := h.form
  exact ⟨a, cap, e, h2, h1, fun hne => by
    obtain ⟨g, ea, hr⟩ := h3 hne
    exact ⟨g, 0, ea, hr.at⟩⟩

theorem load_at {P : Program} {ty : TypeId} {m : Nat} {w : World} {g off i : Nat} {rs : List (List Value)} {r : List Value} (h : At m w g off rs) (hr : rs[i]? = some r) (ht : wideT P ty r.length = true) : (loadVar ty ⟨g, off + i * m, none⟩).run P w = .ok (.agg r.toArray) w :=
  load_cells ht fun j v hv => h.cells i r hr j v hv

/-- A local block, as records. -/
theorem at_of_blk {m : Nat} {w : World} {g : Nat} {rs : List (List Value)} (h : LBlk w g rs.flatten) (hm : ∀ r ∈ rs, r.length = m) : At m w g 0 rs :=
  ⟨fun i r hr j v hv => by rw [Nat.zero_add]; exact (h.2 _ _ (flat_at hm hr hv)).1, h.1⟩

theorem row_of_blk {m : Nat} {w : World} {g cap : Nat} {rs : List (List Value)} (h : LBlk w g rs.flatten) (hm : ∀ r ∈ rs, r.length = m) (h1 : rs.length ≤ cap) (h2 : cap ≤ 9223372036854775807) : Row m w g cap rs :=
  ⟨fun i r hr j v hv => (h.2 _ _ (flat_at hm hr hv)).1, h1, h2, h.1⟩

theorem store_fromO {P : Program} {b o : Nat} : ∀ (vs : List Value) (i : Nat) (cur : List Value) (w : World), LBlk w b cur → o + i + vs.length ≤ cur.length → (∀ v ∈ vs, v.oneCell' = true) →
    ∃ w', (storeCells ⟨b, o, none⟩ vs i).run P w = .ok () w' ∧ LBlk w' b (cur.take (o + i) ++ vs ++ cur.drop (o + i + vs.length)) ∧ Only b w w' ∧ w'.heap.size = w.heap.size
  | [], i, cur, w, h, hl, _ => ⟨w, rfl, by simpa using h, Only.refl _ _, rfl⟩
  | v :: rest, i, cur, w, h, hl, h1 => by
    have hi : o + i < cur.length := by simp at hl; omega
    obtain ⟨hc, hf⟩ := h.2 (o + i) cur[o + i] (List.getElem?_eq_getElem hi)
    have hst : (store ((⟨b, o, none⟩ : Addr).add i) v).run P w = .ok () (w.setCell ⟨b, o + i, none⟩ v) := by
      rw [add_lit, run_store P w _ v _ (h1 v (by simp)), hc]
      simp [hf]
    obtain ⟨w', e, hl', ho, hs⟩ := store_fromO (P := P) (o := o) rest (i + 1) (cur.set (o + i) v) (w.setCell ⟨b, o + i, none⟩ v) (h.set (o + i) v hi) (by simp at hl ⊢; omega) (fun x hx => h1 x (by simp [hx]))
    refine ⟨w', ?_, ?_, ((Only.refl b w).setCell rfl v).trans ho, by rw [hs]; simp [World.setCell]⟩
    · simp only [storeCells, Sem.run_bind, hst, Result.andThen_ok, e]
    · have he : (cur.set (o + i) v).take (o + (i + 1)) ++ rest ++ (cur.set (o + i) v).drop (o + (i + 1) + rest.length) = cur.take (o + i) ++ (v :: rest) ++ cur.drop (o + i + (v :: rest).length) := by
        generalize hq : o + i = q at *
        rw [show o + (i + 1) = q + 1 by omega]
        apply List.ext_getElem?
        intro k
        simp only [List.length_cons, List.getElem?_append, List.length_append, List.length_take, List.length_set, List.getElem?_take, List.getElem?_set, List.getElem?_drop]
        by_cases hk : k < q
        · simp [hk, show k < q + 1 by omega, show k < min (q + 1) cur.length by omega, show k < min (q + 1) cur.length + rest.length by omega, show k < min q cur.length by omega, show k < min q cur.length + (rest.length + 1) by omega, show q ≠ k by omega]
        · by_cases hk2 : k = q
          · subst hk2
            simp [show min (k + 1) cur.length = k + 1 by omega, show min k cur.length = k by omega, hi, show k < k + 1 + rest.length by omega]
          · by_cases hk3 : k < q + 1 + rest.length
            · simp [show min (q + 1) cur.length = q + 1 by omega, show min q cur.length = q by omega, hk3, show ¬ k < q + 1 by omega, hk, show k < q + (rest.length + 1) by omega, show k - q = (k - (q + 1)) + 1 by omega]
            · simp [show min (q + 1) cur.length = q + 1 by omega, show min q cur.length = q by omega, hk3, show ¬ k < q + (rest.length + 1) by omega, show ¬ q = q + 1 + rest.length + (k - (q + 1 + rest.length)) by omega]
              congr 1
              omega
      rw [he] at hl'
      exact hl'

/-- A store over a stretch of a block. -/
theorem store_part {P : Program} {ty : TypeId} {b o : Nat} {old vs : List Value} {w : World} (h : LBlk w b old) (ht : wideT P ty vs.length = true) (hl : o + vs.length ≤ old.length) (h1 : vs.all (·.oneCell') = true) : ∃ w', (storeVar ty ⟨b, o, none⟩ (.agg vs.toArray)).run P w = .ok () w' ∧ LBlk w' b (old.take o ++ vs ++ old.drop (o + vs.length)) ∧ Only b w w' ∧ w'.heap.size = w.heap.size := by
  obtain ⟨w', e, hl', ho, hs⟩ := store_fromO (P := P) (o := o) vs 0 old w h (by omega) (fun v hv => List.all_eq_true.1 h1 v hv)
  refine ⟨w', ?_, hl', ho, hs⟩
  unfold wideT at ht
  rw [Bool.and_eq_true] at ht
  obtain ⟨_, h2⟩ := ht
  cases hq : P.info? ty with
  | none => simp [hq] at h2
  | some i =>
    have hs : vs.length = i.size := by simp [hq] at h2; omega
    simp [storeVar, sizeOf, typeInfo, hq, Value.cells, hs, e]

/-- A record that is made and filled at one go. -/
theorem laid {P : Program} {ty : TypeId} (w : World) (zs vs : List Value) (ht : wideT P ty vs.length = true) (hl : zs.length = vs.length) (h1 : vs.all (·.oneCell') = true) : ∃ w', (storeVar ty ⟨w.heap.size, 0, none⟩ (.agg vs.toArray)).run P (w.alloc (.cells zs.toArray ty)) = .ok () w' ∧ LBlk w' w.heap.size vs ∧ Below w.heap.size w w' := by
  obtain ⟨w', e, hl', ho, hs⟩ := store_blk (P := P) (ty := ty) (LBlk.new w zs ty) ht hl h1
  exact ⟨w', e, hl', ((Below.refl _ _).alloc (Nat.le_refl _) _).trans (ho.below (Nat.le_refl _) (by simp))⟩

theorem exec_store {P : Program} {o : Oper} {A : Act} {W W' : World} {ty : TypeId} {x y : Operand} {p : Addr} {v : Value} (ho : o.op = .store ty x y) (hx : A.eval x = .pointer (some p)) (hy : A.eval y = v) (hr : (storeVar ty p v).run P W = .ok () W') : (execOp A.eval o).run P W = .ok .skip W' := by
  unfold execOp
  simp only [ho, hx, hy, Instr.storeAt, Instr.sureAddr, Sem.run_bind, Sem.run_pure, Result.andThen_ok, hr]

theorem exec_load {P : Program} {o : Oper} {A : Act} {W W' : World} {ty : TypeId} {x : Operand} {p : Addr} {v : Value} (ho : o.op = .load ty x) (hx : A.eval x = .pointer (some p)) (hr : (loadVar ty p).run P W = .ok v W') : (execOp A.eval o).run P W = .ok (.value v) W' := by
  unfold execOp
  simp only [ho, hx, Instr.loadAt, Instr.sureAddr, Sem.run_bind, Sem.run_pure, Result.andThen_ok, hr]

theorem flat_put {m : Nat} {pre post : List (List Value)} {x y : List Value} (hp : ∀ r ∈ pre, r.length = m) (hx : x.length = m) (hy : y.length = m) : (pre ++ x :: post).flatten.take (pre.length * m) ++ y ++ (pre ++ x :: post).flatten.drop (pre.length * m + y.length) = (pre ++ y :: post).flatten := by
  have hl := flat_len hp
  rw [List.flatten_append, List.flatten_append, List.flatten_cons, List.flatten_cons, ← hl, List.take_left', List.append_assoc]
  · congr 1
    congr 1
    rw [← List.drop_drop, List.drop_left' rfl, hy, ← hx, List.drop_left' rfl]
  · rfl

section
variable {P : Program} {ops : Array Oper} {Q : Exit → Act → World → Prop} {a : Act} {w w' : World} {rest : List Oper} {o : Oper}

/-- Is it a load of this type, from a place of which this holds? -/
def IsLoad (o : Oper) (ty : TypeId) (K : Operand → Prop) : Prop := o.guard = none ∧ match o.op with
  | .load t x => t = ty ∧ K x
  | _ => False

def IsStore (o : Oper) (ty : TypeId) (K : Operand → Operand → Prop) : Prop := o.guard = none ∧ match o.op with
  | .store t x y => t = ty ∧ K x y
  | _ => False

theorem wp_load_at {ty : TypeId} {p : Addr} {v : Value} (hr : (loadVar ty p).run P w = .ok v w') (hm : IsLoad o ty fun x => a.eval x = .pointer (some p)) (h : wpList P ops Q rest (a.put o.dst v) w') : wpList P ops Q (o :: rest) a w := by
  obtain ⟨hg, hm⟩ := hm
  cases ho : o.op <;> rw [ho] at hm <;> first | exact hm.elim | skip
  obtain ⟨rfl, hx⟩ := hm
  exact wpList_load_eq hr hg ho hx h

theorem wp_store_at {ty : TypeId} {p : Addr} {v : Value} (hr : (storeVar ty p v).run P w = .ok () w') (hm : IsStore o ty fun x y => a.eval x = .pointer (some p) ∧ a.eval y = v) (h : wpList P ops Q rest (a.put o.dst undef) w') : wpList P ops Q (o :: rest) a w := by
  obtain ⟨hg, hm⟩ := hm
  cases ho : o.op <;> rw [ho] at hm <;> first | exact hm.elim | skip
  obtain ⟨rfl, hx, hy⟩ := hm
  exact wpList_store_eq hr hg ho hx hy h
end

end Go.Proofs.Ytmcjfjchpclamaa.RC
