/- Plain functions of chapter 11 (figures): trees, ways up, who meets a pick: no program, no model. -/
import Derived.Test.YtgaggpnlimchkaaGreatDoorPlain10
import Derived.Test.YtgaggpnlimchkaaGreatDoorBase10
import Derived.Test.YtgaggpnlimchkaaGreatDoorBase9
namespace Go.Proofs.YtgaggpnlimchkaaGreatDoor.P11
open Go.Proofs.YtgaggpnlimchkaaGreatDoor.P1 Go.Proofs.YtgaggpnlimchkaaGreatDoor.T1 Go.Proofs.YtgaggpnlimchkaaGreatDoor.P5 Go.Proofs.YtgaggpnlimchkaaGreatDoor.P6 Go.Proofs.YtgaggpnlimchkaaGreatDoor.P9 Go.Proofs.YtgaggpnlimchkaaGreatDoor.P10
set_option linter.unusedVariables false

/-- A figure. -/
structure Fi where
  above : Int
  tag : List UInt8
  id : List UInt8
  bs : List (List UInt8)
  ns : List No

def Fi.zero : Fi := ⟨0, [], [], [], []⟩

def figOk (f : Fi) : Bool := isName f.tag 8 && (f.id.isEmpty || isName f.id 8) && badgesOk f.bs 4 && notesOk f.ns

def aboveOk (a : Int) (i : Nat) : Bool := if i = 0 then decide (a = -1) else P1.within a 0 ((i : Int) - 1)

def standOk (f : Fi) (i : Nat) : Bool := figOk f && aboveOk f.above i

def standAll : Nat → List Fi → Bool
  | _, [] => true
  | i, f :: r => standOk f i && standAll (i + 1) r

def treeOk (t : List Fi) : Bool := standAll 0 t && decide (t.length ≤ 16)

def mayStand (f : Fi) (i : Nat) : Bool := decide (i < 16) && standOk f i

theorem standAll_iff : ∀ {k : Nat} {t : List Fi}, standAll k t = true ↔ ∀ i f, t[i]? = some f → standOk f (k + i) = true
  | k, [] => by simp [standAll]
  | k, f :: r => by
    unfold standAll
    rw [Bool.and_eq_true, standAll_iff (k := k + 1) (t := r)]
    constructor
    · rintro ⟨h1, h2⟩ i g hg
      cases i with
      | zero => simp at hg; subst hg; exact h1
      | succ i =>
        have := h2 i g (by simpa using hg)
        rwa [show k + 1 + i = k + (i + 1) by omega] at this
    · intro h
      refine ⟨h 0 f rfl, fun i g hg => ?_⟩
      have := h (i + 1) g (by simpa using hg)
      rwa [show k + (i + 1) = k + 1 + i by omega] at this

theorem stand_of {t : List Fi} (h : treeOk t = true) {i : Nat} {f : Fi} (hf : t[i]? = some f) : standOk f i = true := by
  unfold treeOk at h
  rw [Bool.and_eq_true, standAll_iff] at h
  simpa using h.1 i f hf

theorem tree_len {t : List Fi} (h : treeOk t = true) : t.length ≤ 16 := by
  unfold treeOk at h
  simp only [Bool.and_eq_true, decide_eq_true_eq] at h
  exact h.2

theorem tree_may {t : List Fi} : treeOk t = true ↔ ∀ i f, t[i]? = some f → mayStand f i = true := by
  constructor
  · intro h i f hf
    unfold mayStand
    have h1 := (List.getElem?_eq_some_iff.1 hf).1
    have h2 := tree_len h
    rw [stand_of h hf, decide_eq_true (by omega)]; rfl
  · intro h
    unfold treeOk
    rw [Bool.and_eq_true, standAll_iff, decide_eq_true_eq]
    refine ⟨fun i f hf => ?_, ?_⟩
    · have := h i f hf
      unfold mayStand at this
      rw [Bool.and_eq_true] at this
      simpa using this.2
    · rcases Nat.lt_or_ge 16 t.length with hl | hl
      · have := h 16 t[16] (List.getElem?_eq_getElem hl)
        unfold mayStand at this
        rw [Bool.and_eq_true, decide_eq_true_eq] at this
        omega
      · exact hl

theorem tree_bad {t : List Fi} {i : Nat} {f : Fi} (hf : t[i]? = some f) (h : standOk f i = false) : treeOk t = false := by
  cases hq : treeOk t
  · rfl
  · rw [stand_of hq hf] at h; cases h

theorem tree_all {t : List Fi} (h : ∀ i f, t[i]? = some f → standOk f i = true) : treeOk t = decide (t.length ≤ 16) := by
  unfold treeOk
  rw [standAll_iff.2 (by simpa using h)]; rfl

theorem tree_bad_may {t : List Fi} {i : Nat} {f : Fi} (hf : t[i]? = some f) (h : mayStand f i = false) : treeOk t = false := by
  cases hq : treeOk t
  · rfl
  · rw [tree_may.1 hq i f hf] at h; cases h

theorem tree_snoc {t : List Fi} (h : treeOk t = true) (f : Fi) : treeOk (t ++ [f]) = mayStand f t.length := by
  rw [Bool.eq_iff_iff, tree_may]
  constructor
  · intro ha
    exact ha t.length f (by rw [List.getElem?_append_right (Nat.le_refl _), Nat.sub_self]; rfl)
  · intro hm i g hg
    rcases Nat.lt_or_ge i t.length with hl | hl
    · rw [List.getElem?_append_left hl] at hg
      exact tree_may.1 h i g hg
    · have h1 := (List.getElem?_eq_some_iff.1 hg).1
      simp at h1
      obtain rfl : i = t.length := by omega
      rw [List.getElem?_append_right (Nat.le_refl _), Nat.sub_self] at hg
      simp at hg
      rw [← hg]; exact hm

/-- What grows. -/
def grown (t : List Fi) (f : Fi) : List Fi × Bool := if treeOk t = true then (if mayStand f t.length = true then (t ++ [f], true) else (t, false)) else ([], false)

/-! ### The way up -/

def aboveAt (t : List Fi) (i : Int) : Int := match t[i.toNat]? with
  | some f => f.above
  | none => -1

def hasFig (t : List Fi) (i : Int) : Bool := (decide (0 ≤ i) && decide (i < (t.length : Int))) && treeOk t

def ways (t : List Fi) : Nat → Int → List Int
  | 0, _ => []
  | n + 1, i => if i < 0 then [] else i :: ways t n (aboveAt t i)

def wayUp (t : List Fi) (i : Int) : List Int := ways t t.length i

def path (t : List Fi) (i : Int) : List Int := if hasFig t i = true then wayUp t i else []

theorem above_lt {t : List Fi} (h : treeOk t = true) {i : Int} (h0 : 0 ≤ i) (h1 : i < (t.length : Int)) : -1 ≤ aboveAt t i ∧ aboveAt t i < i ∧ (i ≠ 0 → 0 ≤ aboveAt t i) ∧ (i = 0 → aboveAt t i = -1) := by
  have hl : i.toNat < t.length := by omega
  have hs := stand_of h (List.getElem?_eq_getElem hl)
  unfold aboveAt
  rw [List.getElem?_eq_getElem hl]
  dsimp only
  unfold standOk aboveOk at hs
  rw [Bool.and_eq_true] at hs
  have h2 := hs.2
  split at h2
  · rw [decide_eq_true_eq] at h2
    omega
  · have := within_true h2
    omega

theorem ways_enough {t : List Fi} (h : treeOk t = true) : ∀ (n m : Nat) (i : Int), i < (t.length : Int) → i < (n : Int) → i < (m : Int) → ways t n i = ways t m i
  | 0, m, i, h1, h2, h3 => by
    cases m with
    | zero => rfl
    | succ m => simp only [ways]; rw [if_pos (by omega)]
  | n + 1, 0, i, h1, h2, h3 => by simp only [ways]; rw [if_pos (by omega)]
  | n + 1, m + 1, i, h1, h2, h3 => by
    simp only [ways]
    by_cases h0 : i < 0
    · rw [if_pos h0, if_pos h0]
    · rw [if_neg h0, if_neg h0]
      have ha := above_lt h (by omega) h1
      rw [ways_enough h n m (aboveAt t i) (by omega) (by omega) (by omega)]

theorem wayUp_neg {t : List Fi} {i : Int} (h : i < 0) : wayUp t i = [] := by
  unfold wayUp
  cases t.length with
  | zero => rfl
  | succ n => simp only [ways]; rw [if_pos h]

theorem wayUp_cons {t : List Fi} (h : treeOk t = true) {i : Int} (h0 : 0 ≤ i) (h1 : i < (t.length : Int)) : wayUp t i = i :: wayUp t (aboveAt t i) := by
  unfold wayUp
  obtain ⟨n, hn⟩ : ∃ n, t.length = n + 1 := ⟨t.length - 1, by omega⟩
  have ha := above_lt h h0 h1
  rw [ways_enough h t.length (t.length + 1) (aboveAt t i) (by omega) (by omega) (by omega)]
  rw [hn] at h1 ⊢
  simp only [ways]
  rw [if_neg (by omega)]
  by_cases h2 : aboveAt t i < 0
  · rw [if_pos h2]
    cases n with
    | zero => rfl
    | succ n => simp only [ways]; rw [if_pos h2]
  · rw [if_neg h2]
    have hb := above_lt h (i := aboveAt t i) (by omega) (by omega)
    cases n with
    | zero => omega
    | succ n =>
      simp only [ways]
      rw [if_neg h2]
      rw [ways_enough h n (n + 1 + 1) (aboveAt t (aboveAt t i)) (by omega) (by omega) (by omega)]
      simp only [ways]

theorem wayUp_len {t : List Fi} (i : Int) : (wayUp t i).length ≤ t.length := by
  unfold wayUp
  generalize t.length = n
  induction n generalizing i with
  | zero => simp [ways]
  | succ n ih =>
    simp only [ways]
    split
    · simp
    · rw [List.length_cons]; exact Nat.succ_le_succ (ih _)

/-- What a way up is: each its own above's child, down to none. -/
theorem wayUp_mem {t : List Fi} (h : treeOk t = true) : ∀ (n : Nat) (i : Int), i.toNat ≤ n → i < (t.length : Int) → ∀ x ∈ wayUp t i, 0 ≤ x ∧ x ≤ i
  | n, i, hn, h1, x, hx => by
    by_cases h0 : i < 0
    · rw [wayUp_neg h0] at hx; cases hx
    · have ha := above_lt h (by omega) h1
      rw [wayUp_cons h (by omega) h1] at hx
      rcases List.mem_cons.1 hx with rfl | hx
      · omega
      · cases n with
        | zero =>
          have h2 : aboveAt t i < 0 := by omega
          rw [wayUp_neg h2] at hx; cases hx
        | succ n =>
          have := wayUp_mem h n (aboveAt t i) (by omega) (by omega) x hx
          omega

theorem wayUp_step {t : List Fi} (h : treeOk t = true) : ∀ (k : Nat) (i : Int) (x y : Int), i < (t.length : Int) → (wayUp t i)[k]? = some x → (wayUp t i)[k + 1]? = some y → y < x ∧ aboveAt t x = y
  | k, i, x, y, h1, hx, hy => by
    by_cases h0 : i < 0
    · rw [wayUp_neg h0] at hx; cases hx
    · have ha := above_lt h (by omega) h1
      rw [wayUp_cons h (by omega) h1] at hx hy
      rw [List.getElem?_cons_succ] at hy
      cases k with
      | zero =>
        simp at hx
        subst hx
        by_cases h2 : aboveAt t i < 0
        · rw [wayUp_neg h2] at hy; cases hy
        · rw [wayUp_cons h (by omega) (by omega)] at hy
          simp at hy
          omega
      | succ k =>
        rw [List.getElem?_cons_succ] at hx
        exact wayUp_step h k (aboveAt t i) x y (by omega) hx hy

theorem wayUp_last {t : List Fi} (h : treeOk t = true) : ∀ (n : Nat) (i : Int), i.toNat ≤ n → 0 ≤ i → i < (t.length : Int) → (wayUp t i)[(wayUp t i).length - 1]? = some 0
  | n, i, hn, h0, h1 => by
    have ha := above_lt h h0 h1
    rw [wayUp_cons h h0 h1]
    by_cases h2 : aboveAt t i < 0
    · rw [wayUp_neg h2]
      have : i = 0 := by
        by_cases h3 : i = 0
        · exact h3
        · have := ha.2.2.1 h3
          omega
      subst this; rfl
    · cases n with
      | zero => omega
      | succ n =>
        have ih := wayUp_last h n (aboveAt t i) (by omega) (by omega) (by omega)
        have hne : (wayUp t (aboveAt t i)).length ≠ 0 := by
          rw [wayUp_cons h (by omega) (by omega)]; simp
        obtain ⟨m, hm⟩ : ∃ m, (wayUp t (aboveAt t i)).length = m + 1 := ⟨_, (Nat.succ_pred_eq_of_pos (by omega)).symm⟩
        rw [hm] at ih
        rw [List.length_cons, hm, Nat.add_sub_cancel, List.getElem?_cons_succ]
        exact ih

/-! ### Who meets a pick -/

def oneOk (f : Fi) (p : Pt) : Bool := p.bs.all (fun b => f.bs.contains b) && ((p.tag.isEmpty || p.tag == f.tag) && (p.id.isEmpty || p.id == f.id))

def oneAt (t : List Fi) (i : Int) (p : Pt) : Bool := match t[i.toNat]? with
  | some f => oneOk f p
  | none => false

/-- Of the parts from the last to the first one. -/
def meetsR (t : List Fi) : List Pt → Int → Bool
  | [], _ => false
  | [p], i => decide (0 ≤ i) && oneAt t i p
  | p :: q :: r, i => (decide (0 ≤ i) && oneAt t i p) && (if p.near = true then meetsR t (q :: r) (aboveAt t i) else (wayUp t (aboveAt t i)).any (meetsR t (q :: r)))

def meets (t : List Fi) (i : Int) (ps : List Pt) : Bool := (hasFig t i && pickOk ps) && meetsR t ps.reverse i

theorem meetsR_neg {t : List Fi} {ps : List Pt} {i : Int} (h : i < 0) : meetsR t ps i = false := by
  unfold meetsR
  split
  · rfl
  · rw [decide_eq_false (by omega)]; rfl
  · rw [decide_eq_false (by omega)]; rfl

theorem meetsR_one {t : List Fi} {p : Pt} {i : Int} (h : 0 ≤ i) : meetsR t [p] i = oneAt t i p := by
  simp only [meetsR]
  rw [decide_eq_true h]; rfl

theorem meetsR_more {t : List Fi} {p : Pt} {r : List Pt} {i : Int} (h : 0 ≤ i) (hr : r ≠ []) : meetsR t (p :: r) i = (oneAt t i p && (if p.near = true then meetsR t r (aboveAt t i) else (wayUp t (aboveAt t i)).any (meetsR t r))) := by
  cases r with
  | nil => exact absurd rfl hr
  | cons q r =>
    simp only [meetsR]
    rw [decide_eq_true h]; rfl

/-- What is asked of those above: all of them, or the first alone. -/
def restOk (t : List Fi) (p : Pt) (r : List Pt) (i : Int) : Bool := if p.near = true then meetsR t r (aboveAt t i) else (wayUp t (aboveAt t i)).any (meetsR t r)

theorem rev_snoc (ps : List Pt) (p : Pt) : (ps ++ [p]).reverse = p :: ps.reverse := by simp

theorem head_take {ps : List Pt} {n : Nat} (h : 1 ≤ n) : headNear (ps.take n) = headNear ps := by
  cases n with
  | zero => omega
  | succ n =>
    cases ps with
    | nil => rfl
    | cons p r => rfl

/-- A right pick's beginning is one. -/
theorem pick_take {ps : List Pt} (h : pickOk ps = true) {n : Nat} (h1 : 1 ≤ n) (h2 : n ≤ ps.length) : pickOk (ps.take n) = true := by
  unfold pickOk at h ⊢
  simp only [Bool.and_eq_true, decide_eq_true_eq] at h ⊢
  obtain ⟨⟨⟨ha, hb⟩, hc⟩, hd⟩ := h
  refine ⟨⟨⟨?_, by rw [List.length_take]; omega⟩, by rw [List.length_take]; omega⟩, by rw [head_take h1]; exact hd⟩
  rw [List.all_eq_true] at ha ⊢
  exact fun x hx => ha x (List.mem_of_mem_take hx)

end Go.Proofs.YtgaggpnlimchkaaGreatDoor.P11

namespace Go.Proofs.YtgaggpnlimchkaaGreatDoor.B11
open Go.Proofs.YtgaggpnlimchkaaGreatDoor.P1 Go.Proofs.YtgaggpnlimchkaaGreatDoor.B1 Go.Proofs.YtgaggpnlimchkaaGreatDoor.B2 Go.Proofs.YtgaggpnlimchkaaGreatDoor.T1 Go.Proofs.YtgaggpnlimchkaaGreatDoor.BT Go.Proofs.YtgaggpnlimchkaaGreatDoor.P5 Go.Proofs.YtgaggpnlimchkaaGreatDoor.B5 Go.Proofs.YtgaggpnlimchkaaGreatDoor.P6 Go.Proofs.YtgaggpnlimchkaaGreatDoor.P9 Go.Proofs.YtgaggpnlimchkaaGreatDoor.B6 Go.Proofs.YtgaggpnlimchkaaGreatDoor.B9 Go.Proofs.YtgaggpnlimchkaaGreatDoor.D1 Go.Proofs.YtgaggpnlimchkaaGreatDoor.W8 Go.Proofs.YtgaggpnlimchkaaGreatDoor.RC Go.Proofs.YtgaggpnlimchkaaGreatDoor.RI Go.Proofs.YtgaggpnlimchkaaGreatDoor.P10 Go.Proofs.YtgaggpnlimchkaaGreatDoor.B10 Go.Proofs.YtgaggpnlimchkaaGreatDoor.P11
open Go.ChangeShapes Go.WideShapes Go.ChangeAt Go.RowKit
set_option linter.unusedVariables false

/-- A figure with the slices that hold its badges and its notes. -/
structure Fv where
  f : Fi
  u : Value
  n : Value

def fiL (x : Fv) : List Value := [.int .i64 x.f.above, .string ⟨x.f.tag.toArray⟩, .string ⟨x.f.id.toArray⟩, x.u, x.n]

def fiV (x : Fv) : Value := .agg (fiL x).toArray

theorem fiV_is (x : Fv) : fiV x = .agg #[.int .i64 x.f.above, .string ⟨x.f.tag.toArray⟩, .string ⟨x.f.id.toArray⟩, x.u, x.n] := rfl

def fiRs (xs : List Fv) : List (List Value) := xs.map fiL

/-- The figures themselves. -/
def fis (xs : List Fv) : List Fi := xs.map (·.f)

theorem fis_len (xs : List Fv) : (fis xs).length = xs.length := by simp [fis]
theorem fis_at {xs : List Fv} {i : Nat} {x : Fv} (h : xs[i]? = some x) : (fis xs)[i]? = some x.f := by unfold fis; rw [List.getElem?_map, h]; rfl
theorem at_fis {xs : List Fv} {i : Nat} {f : Fi} (h : (fis xs)[i]? = some f) : ∃ x, xs[i]? = some x ∧ x.f = f := by
  unfold fis at h
  rw [List.getElem?_map] at h
  cases hx : xs[i]? with
  | none => rw [hx] at h; cases h
  | some x => rw [hx] at h; exact ⟨x, rfl, Option.some.inj h⟩

/-- Its badges and its notes lie there. -/
def HeldF (w : World) (x : Fv) : Prop := StrSlc w x.u x.f.bs ∧ NoSlc w x.n x.f.ns

theorem HeldF.on {w w' : World} {x : Fv} (h : HeldF w x) (hb : Below w.heap.size w w') : HeldF w' x := ⟨StrSlc.on h.1 hb, NoSlc.on h.2 hb⟩

theorem heldF_form {w : World} {x : Fv} (h : HeldF w x) : (∃ a cap, x.u = .slice a x.f.bs.length cap ∧ x.f.bs.length ≤ cap ∧ cap ≤ 9223372036854775807) ∧ ∃ a cap, x.n = .slice a x.f.ns.length cap ∧ x.f.ns.length ≤ cap ∧ cap ≤ 9223372036854775807 := by
  obtain ⟨a, cap, e, h1, h2, _⟩ := StrSlc.form h.1
  obtain ⟨a', cap', e', h1', h2', _⟩ := NoSlc.form h.2
  exact ⟨⟨a, cap, e, h1, h2⟩, a', cap', e', h1', h2'⟩

theorem fiL_one {w : World} {x : Fv} (h : HeldF w x) : (fiL x).all (·.oneCell') = true := by
  obtain ⟨⟨a, cap, e, _⟩, a', cap', e', _⟩ := heldF_form h
  unfold fiL
  rw [e, e']; rfl

/-- A slice of figures. -/
def FiSlc (w : World) (v : Value) (xs : List Fv) : Prop := RC.Slc 5 w v (fiRs xs) ∧ ∀ x ∈ xs, HeldF w x

theorem fiRs_len (xs : List Fv) : (fiRs xs).length = xs.length := by simp [fiRs]
theorem fiRs_at {xs : List Fv} {i : Nat} {x : Fv} (h : xs[i]? = some x) : (fiRs xs)[i]? = some (fiL x) := by unfold fiRs; rw [List.getElem?_map, h]; rfl
theorem fiRs_five (xs : List Fv) : ∀ r ∈ fiRs xs, r.length = 5 := fun r hr => by
  obtain ⟨n, _, rfl⟩ := List.mem_map.1 hr
  rfl

theorem FiSlc.on {w w' : World} {v : Value} {xs : List Fv} (h : FiSlc w v xs) (hb : Below w.heap.size w w') : FiSlc w' v xs := ⟨Slc.on h.1 hb, fun x hx => (h.2 x hx).on hb⟩

theorem FiSlc.form {w : World} {v : Value} {xs : List Fv} (h : FiSlc w v xs) : ∃ a cap, v = .slice a xs.length cap ∧ xs.length ≤ cap ∧ cap ≤ 9223372036854775807 ∧ (xs ≠ [] → ∃ g off, a = some ⟨g, off, none⟩ ∧ RC.At 5 w g off (fiRs xs)) := by
  obtain ⟨a, cap, e, h1, h2, h3⟩ := h.1
  rw [fiRs_len] at e h1
  exact ⟨a, cap, e, h1, h2, fun hne => h3 (by intro e0; exact hne (List.map_eq_nil_iff.1 e0))⟩

theorem fi_wide : wideT Tryz.prog 28 5 = true := by kernel_rfl

theorem fi_cells {w : World} {g off i : Nat} {xs : List Fv} {x : Fv} (h : RC.At 5 w g off (fiRs xs)) (hx : xs[i]? = some x) :
    w.cell? ⟨g, off + i * 5, none⟩ = some (.int .i64 x.f.above) ∧ w.cell? ⟨g, off + i * 5 + 1, none⟩ = some (.string ⟨x.f.tag.toArray⟩) ∧ w.cell? ⟨g, off + i * 5 + 2, none⟩ = some (.string ⟨x.f.id.toArray⟩) ∧ w.cell? ⟨g, off + i * 5 + 3, none⟩ = some x.u ∧ w.cell? ⟨g, off + i * 5 + 4, none⟩ = some x.n :=
  ⟨h.cells i _ (fiRs_at hx) 0 _ rfl, h.cells i _ (fiRs_at hx) 1 _ rfl, h.cells i _ (fiRs_at hx) 2 _ rfl, h.cells i _ (fiRs_at hx) 3 _ rfl, h.cells i _ (fiRs_at hx) 4 _ rfl⟩

theorem fi_load {w : World} {g off i : Nat} {xs : List Fv} {x : Fv} (h : RC.At 5 w g off (fiRs xs)) (hx : xs[i]? = some x) : (loadVar 28 ⟨g, off + i * 5, none⟩).run Tryz.prog w = .ok (fiV x) w := load_at h (fiRs_at hx) fi_wide

def fiZ : List Value := [.int .i64 0, .string ⟨#[]⟩, .string ⟨#[]⟩, .slice none 0 0, .slice none 0 0]

theorem fi_laid {w : World} {x : Fv} (W : World) (h : HeldF w x) : ∃ w', (storeVar 28 ⟨W.heap.size, 0, none⟩ (fiV x)).run Tryz.prog (W.alloc (.cells #[.int .i64 0, .string ⟨#[]⟩, .string ⟨#[]⟩, .slice none 0 0, .slice none 0 0] 28)) = .ok () w' ∧ LBlk w' W.heap.size (fiL x) ∧ Below W.heap.size W w' := laid W fiZ (fiL x) fi_wide rfl (fiL_one h)

theorem fi_blk {w : World} {b : Nat} {x : Fv} (h : LBlk w b (fiL x)) : w.cell? ⟨b, 0, none⟩ = some (.int .i64 x.f.above) ∧ w.cell? ⟨b, 1, none⟩ = some (.string ⟨x.f.tag.toArray⟩) ∧ w.cell? ⟨b, 2, none⟩ = some (.string ⟨x.f.id.toArray⟩) ∧ w.cell? ⟨b, 3, none⟩ = some x.u ∧ w.cell? ⟨b, 4, none⟩ = some x.n :=
  ⟨(h.2 0 _ rfl).1, (h.2 1 _ rfl).1, (h.2 2 _ rfl).1, (h.2 3 _ rfl).1, (h.2 4 _ rfl).1⟩

/-- A guard that is met is taken off. -/
theorem wpList_bare11 {P : Program} {ops : Array Oper} {Q : Exit → Act → World → Prop} {a : Act} {w : World} {rest : List Oper} {o : Oper}
    (hw : Region.wanted o (yielded ops a.tmps) = true) (h : wpList P ops Q ({ o with guard := none } :: rest) a w) : wpList P ops Q (o :: rest) a w := by
  simp only [wpList] at h ⊢
  rw [if_pos hw]
  rw [if_pos (by simp [Region.wanted])] at h
  exact h

/-- Short enough for whatever is reckoned. -/
def FitsF (x : Fv) : Prop := (-9223372036854775808 ≤ x.f.above ∧ x.f.above ≤ 9223372036854775807) ∧ x.f.tag.length ≤ 1048576 ∧ x.f.id.length ≤ 1048576 ∧ x.f.bs.length ≤ 1048576 ∧ (∀ s ∈ x.f.bs, s.length ≤ 1048576) ∧ x.f.ns.length ≤ 1048576 ∧ ∀ n ∈ x.f.ns, (-9223372036854775808 ≤ n.l ∧ n.l ≤ 9223372036854775807) ∧ n.v.w.length ≤ 1048576

end Go.Proofs.YtgaggpnlimchkaaGreatDoor.B11

namespace Go.Proofs.YtgaggpnlimchkaaGreatDoor.B11
open Go.Proofs.YtgaggpnlimchkaaGreatDoor.P1 Go.Proofs.YtgaggpnlimchkaaGreatDoor.B1 Go.Proofs.YtgaggpnlimchkaaGreatDoor.B2 Go.Proofs.YtgaggpnlimchkaaGreatDoor.T1 Go.Proofs.YtgaggpnlimchkaaGreatDoor.BT Go.Proofs.YtgaggpnlimchkaaGreatDoor.P5 Go.Proofs.YtgaggpnlimchkaaGreatDoor.B5 Go.Proofs.YtgaggpnlimchkaaGreatDoor.P6 Go.Proofs.YtgaggpnlimchkaaGreatDoor.P9 Go.Proofs.YtgaggpnlimchkaaGreatDoor.B6 Go.Proofs.YtgaggpnlimchkaaGreatDoor.B9 Go.Proofs.YtgaggpnlimchkaaGreatDoor.D1 Go.Proofs.YtgaggpnlimchkaaGreatDoor.W8 Go.Proofs.YtgaggpnlimchkaaGreatDoor.RC Go.Proofs.YtgaggpnlimchkaaGreatDoor.RI Go.Proofs.YtgaggpnlimchkaaGreatDoor.P10 Go.Proofs.YtgaggpnlimchkaaGreatDoor.B10 Go.Proofs.YtgaggpnlimchkaaGreatDoor.P11
open Go.ChangeShapes Go.WideShapes Go.ChangeAt Go.RowKit
set_option linter.unusedVariables false

/-- A beginning of a slice of parts. -/
theorem pt_to (g off L C j : Nat) (h1 : j ≤ L) (hLC : L ≤ C) (w : World) : (Instr.slice 41 (.slice (some ⟨g, off, none⟩) L C) none (some (.int .i64 (j : Int))) none).run Tryz.prog w = .ok (.slice (some ⟨g, off, none⟩) j C) w := by
  have z3 := Tryz.sizeOf47
  have h' : (j : Int) ≤ (C : Int) := by omega
  have h2 : (0 : Int) ≤ (j : Int) := by omega
  go_simp

theorem pt_toAt (g off L C j : Nat) (h1 : j ≤ L) (hLC : L ≤ C) (w : World) : (Instr.sliceAt 41 (.slice (some ⟨g, off, none⟩) L C) none (some (.int .i64 (j : Int))) none).run Tryz.prog w = .ok (.slice (some ⟨g, off, none⟩) j C) w := by
  have z3 := Tryz.sizeOf47
  have h' : (j : Int) ≤ (C : Int) := by omega
  have h2 : (0 : Int) ≤ (j : Int) := by omega
  go_simp

theorem ptSlc_to {w : World} {g off n cap : Nat} {ys : List Pv} (h : PtSlc w (.slice (some ⟨g, off, none⟩) n cap) ys) (hn : ys.length = n) {j : Nat} (hj : j ≤ n) (hj1 : 1 ≤ j) : PtSlc w (.slice (some ⟨g, off, none⟩) j cap) (ys.take j) := by
  obtain ⟨⟨a, c, e, h1, h2, h3⟩, hh⟩ := h
  rw [ptRs_len] at e h1
  injection e with e1 e2 e3
  subst e1 e3
  have hl : (ys.take j).length = j := by rw [List.length_take]; omega
  refine ⟨⟨_, _, by rw [ptRs_len, hl], by rw [ptRs_len, hl]; omega, h2, fun _ => ?_⟩, fun x hx => hh x (List.mem_of_mem_take hx)⟩
  obtain ⟨g', off', e', hat⟩ := h3 (by intro e0; have := List.map_eq_nil_iff.1 e0; subst this; simp at hn; omega)
  cases e'
  refine ⟨_, _, rfl, fun i r hr k v hv => ?_, hat.lt⟩
  refine hat.cells i r ?_ k v hv
  unfold ptRs at hr ⊢
  rw [List.map_take, List.getElem?_take] at hr
  split at hr
  · exact hr
  · cases hr

theorem ptAt_take {w : World} {g off : Nat} {ys : List Pv} (h : RC.At 4 w g off (ptRs ys)) (j : Nat) : RC.At 4 w g off (ptRs (ys.take j)) := by
  refine ⟨fun i r hr k v hv => h.cells i r ?_ k v hv, h.lt⟩
  unfold ptRs at hr ⊢
  rw [List.map_take, List.getElem?_take] at hr
  split at hr
  · exact hr
  · cases hr

theorem pts_take (ys : List Pv) (n : Nat) : pts (ys.take n) = (pts ys).take n := by unfold pts; rw [List.map_take]

theorem pts_split {ys : List Pv} {m : Nat} {y : Pv} (hl : ys.length = m + 1) (hy : ys[m]? = some y) : (pts ys).reverse = y.p :: (pts (ys.take m)).reverse := by
  have e : ys = ys.take m ++ [y] := by
    have h1 : ys.take (m + 1) = ys := List.take_of_length_le (by omega)
    rw [List.take_add_one, hy] at h1
    exact h1.symm
  have e2 : pts ys = pts (ys.take m) ++ [y.p] := (congrArg pts e).trans (by unfold pts; rw [List.map_append]; rfl)
  rw [e2, List.reverse_append]; rfl

/-- What is asked of a right tree that is not empty. -/
structure Tr (w : World) (g off n cap : Nat) (xs : List Fv) : Prop where
  slc : FiSlc w (.slice (some ⟨g, off, none⟩) n cap) xs
  at_ : RC.At 5 w g off (fiRs xs)
  len : xs.length = n
  cap : n ≤ cap
  n16 : n ≤ 16
  ok : treeOk (fis xs) = true
  fits : ∀ x ∈ xs, FitsF x

theorem Tr.on {w w' : World} {g off n cap : Nat} {xs : List Fv} (h : Tr w g off n cap xs) (hb : Below w.heap.size w w') : Tr w' g off n cap xs := ⟨h.slc.on hb, h.at_.on hb, h.len, h.cap, h.n16, h.ok, h.fits⟩

theorem any_up {t : List Fi} (h : treeOk t = true) {i : Int} (h0 : 0 ≤ i) (h1 : i < (t.length : Int)) (f : Int → Bool) : (wayUp t i).any f = (f i || (wayUp t (aboveAt t i)).any f) := by
  rw [wayUp_cons h h0 h1]; rfl

theorem oneAt_is {xs : List Fv} {k : Nat} {x : Fv} (h : xs[k]? = some x) (p : Pt) : oneAt (fis xs) (k : Int) p = oneOk x.f p := by
  unfold oneAt
  rw [Int.toNat_natCast, fis_at h]

theorem aboveAt_at {xs : List Fv} {k : Nat} {x : Fv} (h : xs[k]? = some x) : aboveAt (fis xs) (k : Int) = x.f.above := by
  unfold aboveAt
  rw [Int.toNat_natCast, fis_at h]

end Go.Proofs.YtgaggpnlimchkaaGreatDoor.B11
