/- Rows of records, whatever a record is: each of m cells. A row that is read ('Row'), one of the call's own ('Own'), a slice that may be nil ('Val'). -/
import Derived.Test.YtmcjfjchpclamaaLoc
import Derived.Maps.AppendAt
namespace Go.Proofs.Ytmcjfjchpclamaa.RC
open Go.Proofs.Ytmcjfjchpclamaa.D1
open Go.ChangeShapes Go.WideShapes Go.ChangeAt Go.RowKit
set_option linter.unusedVariables false

/-- Block g holds these records, one behind the other. -/
structure Row (m : Nat) (w : World) (g cap : Nat) (rs : List (List Value)) : Prop where
  cells : ∀ i r, rs[i]? = some r → ∀ j v, r[j]? = some v → w.cell? ⟨g, i * m + j, none⟩ = some v
  room : rs.length ≤ cap
  top : cap ≤ 9223372036854775807
  lt : g < w.heap.size

theorem Row.on {m : Nat} {w w' : World} {g cap : Nat} {rs : List (List Value)} (h : Row m w g cap rs) (hb : Below w.heap.size w w') : Row m w' g cap rs :=
  ⟨fun i r hr j v hv => (hb.cell (p := ⟨g, i * m + j, none⟩) h.lt).trans (h.cells i r hr j v hv), h.room, h.top, Nat.lt_of_lt_of_le h.lt hb.size⟩

theorem Row.only {m c : Nat} {w w' : World} {g cap : Nat} {rs : List (List Value)} (h : Row m w g cap rs) (ho : Only c w w') (hg : g ≠ c) : Row m w' g cap rs :=
  ⟨fun i r hr j v hv => (ho.cell (p := ⟨g, i * m + j, none⟩) hg h.lt).trans (h.cells i r hr j v hv), h.room, h.top, Nat.lt_of_lt_of_le h.lt ho.size⟩

theorem flat_len {m : Nat} : ∀ {rs : List (List Value)}, (∀ r ∈ rs, r.length = m) → rs.flatten.length = rs.length * m
  | [], _ => by simp
  | r :: t, h => by
    rw [List.flatten_cons, List.length_append, h r (List.mem_cons_self ..), flat_len (fun x hx => h x (List.mem_cons_of_mem _ hx)), List.length_cons, Nat.add_mul]
    omega

theorem flat_at {m : Nat} : ∀ {rs : List (List Value)} {i : Nat} {r : List Value} {j : Nat} {v : Value}, (∀ r ∈ rs, r.length = m) → rs[i]? = some r → r[j]? = some v → rs.flatten[i * m + j]? = some v
  | [], i, r, j, v, _, hr, _ => by simp at hr
  | x :: t, 0, r, j, v, h, hr, hv => by
    obtain rfl : x = r := by simpa using hr
    rw [List.flatten_cons, Nat.zero_mul, Nat.zero_add, List.getElem?_append_left (List.getElem?_eq_some_iff.1 hv).1]
    exact hv
  | x :: t, i + 1, r, j, v, h, hr, hv => by
    have hx := h x (List.mem_cons_self ..)
    rw [List.flatten_cons, List.getElem?_append_right (by rw [hx, Nat.add_mul]; omega), hx, show (i + 1) * m + j - m = i * m + j by rw [Nat.add_mul]; omega]
    exact flat_at (fun y hy => h y (List.mem_cons_of_mem _ hy)) (by simpa using hr) hv

/-- A slice of records of the call's own. -/
def Own (e : TypeId) (m : Nat) (w : World) (v : Value) (B : Nat) (rs : List (List Value)) : Prop := w.ownsRow B e m v rs.length rs.flatten ∧ ∀ r ∈ rs, r.length = m

theorem Own.on {e : TypeId} {m : Nat} {w w' : World} {v : Value} {B : Nat} {rs : List (List Value)} (h : Own e m w v B rs) (hb : Below w.heap.size w w') : Own e m w' v B rs :=
  ⟨h.1.kept (row := none) ⟨hb.os, hb.tape, hb.output, hb.size, fun k hk _ => hb.block k hk⟩ (by cases hv : v.ownBlock <;> simp), h.2⟩

theorem Own.more {e : TypeId} {m : Nat} {w : World} {v : Value} {B : Nat} {rs : List (List Value)} {r : List Value} (hm : ∀ x ∈ rs, x.length = m) (hr : r.length = m) (h : w.ownsRow B e m v (rs.length + 1) (rs.flatten ++ r)) : Own e m w v B (rs ++ [r]) := by
  refine ⟨?_, fun x hx => ?_⟩
  · rw [List.length_append, List.flatten_append]
    simpa using h
  · rcases List.mem_append.1 hx with hx | hx
    · exact hm x hx
    · obtain rfl : x = r := by simpa using hx
      exact hr

theorem Own.row {e : TypeId} {m : Nat} {w : World} {v : Value} {B : Nat} {rs : List (List Value)} (h : Own e m w v B rs) : (v = .slice none 0 0 ∧ rs = []) ∨ ∃ g cap, v = .slice (some ⟨g, 0, none⟩) rs.length cap ∧ B ≤ g ∧ Row m w g cap rs := by
  have h' := h.1
  rcases h'.2 with ⟨hv, hn⟩ | ⟨g, cap, cur, rfl, hb, hg, hnc, hm, _⟩
  · exact Or.inl ⟨hv, List.length_eq_zero_iff.1 hn⟩
  · refine Or.inr ⟨g, cap, rfl, hb, ⟨fun i r hr j v hv => ?_, hnc, by unfold maxLen at hm; omega, (Array.getElem?_eq_some_iff.1 hg).1⟩⟩
    have hi := (List.getElem?_eq_some_iff.1 hr).1
    have hj := (List.getElem?_eq_some_iff.1 hv).1
    have hrm := h.2 r (List.mem_of_getElem? hr)
    rw [World.ownsRow.cellAt h' _ (by
      have : i * m + m ≤ rs.length * m := by rw [← Nat.succ_mul]; exact Nat.mul_le_mul_right m hi
      omega)]
    exact flat_at h.2 hr hv

/-- A slice of records, nil or not. -/
def Val (m : Nat) (w : World) (v : Value) (rs : List (List Value)) : Prop := (v = .slice none 0 0 ∧ rs = []) ∨ ∃ g cap, v = .slice (some ⟨g, 0, none⟩) rs.length cap ∧ Row m w g cap rs

theorem Own.val {e : TypeId} {m : Nat} {w : World} {v : Value} {B : Nat} {rs : List (List Value)} (h : Own e m w v B rs) : Val m w v rs := by
  rcases h.row with h | ⟨g, cap, e, _, hr⟩
  · exact Or.inl h
  · exact Or.inr ⟨g, cap, e, hr⟩

theorem Val.on {m : Nat} {w w' : World} {v : Value} {rs : List (List Value)} (h : Val m w v rs) (hb : Below w.heap.size w w') : Val m w' v rs := by
  rcases h with h | ⟨g, cap, e, hr⟩
  · exact Or.inl h
  · exact Or.inr ⟨g, cap, e, hr.on hb⟩

/-- Where it is not empty it lies in a block. -/
theorem Val.form {m : Nat} {w : World} {v : Value} {rs : List (List Value)} (h : Val m w v rs) : ∃ a cap, v = .slice a rs.length cap ∧ cap ≤ 9223372036854775807 ∧ rs.length ≤ cap ∧ (rs ≠ [] → ∃ g, a = some ⟨g, 0, none⟩ ∧ Row m w g cap rs) := by
  rcases h with ⟨rfl, rfl⟩ | ⟨g, cap, rfl, hr⟩
  · exact ⟨none, 0, rfl, by omega, Nat.le_refl _, fun h => absurd rfl h⟩
  · exact ⟨_, _, rfl, hr.top, hr.room, fun _ => ⟨g, rfl, hr⟩⟩

end Go.Proofs.Ytmcjfjchpclamaa.RC
