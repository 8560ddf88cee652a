/- Plain functions of chapter 10 (picks), and that what the program reads is what the reference reads: no program, no model. -/
import Derived.Test.YtgaggpnlimchkaaGreatDoorPlain9p
import Derived.Lib.SlicesCompact
import Derived.Sort.KeysCollected
namespace Go.Proofs.YtgaggpnlimchkaaGreatDoor.P10
open Go.Proofs.YtgaggpnlimchkaaGreatDoor.P1 Go.Proofs.YtgaggpnlimchkaaGreatDoor.T1 Go.Proofs.YtgaggpnlimchkaaGreatDoor.P5 Go.Proofs.YtgaggpnlimchkaaGreatDoor.P6 Go.Proofs.YtgaggpnlimchkaaGreatDoor.P9 Go.Proofs.YtgaggpnlimchkaaGreatDoor.B5
set_option linter.unusedVariables false

/-- A part of a pick. -/
structure Pt where
  tag : List UInt8
  id : List UInt8
  bs : List (List UInt8)
  near : Bool

def Pt.zero : Pt := ⟨[], [], [], false⟩

def rises : List (List UInt8) → Bool
  | x :: y :: r => decide (x < y) && rises (y :: r)
  | _ => true

def badgesOk (bs : List (List UInt8)) (m : Nat) : Bool := bs.all (fun s => isName s 8) && rises bs && decide (bs.length ≤ m)

def partOk (p : Pt) : Bool := (p.tag.isEmpty || isName p.tag 8) && (p.id.isEmpty || isName p.id 8) && badgesOk p.bs 3 && (!p.tag.isEmpty || !p.id.isEmpty || !p.bs.isEmpty)

def headNear (ps : List Pt) : Bool := match ps with
  | [] => false
  | p :: _ => p.near

def pickOk (ps : List Pt) : Bool := ps.all partOk && decide (1 ≤ ps.length) && decide (ps.length ≤ 4) && !headNear ps

/-- What is put into a list that rises. -/
def put (s : List UInt8) : List (List UInt8) → List (List UInt8)
  | [] => [s]
  | y :: r => if y < s then y :: put s r else if y = s then y :: r else s :: y :: r

/-- Sorted, each once. -/
def rising (bs : List (List UInt8)) : List (List UInt8) := Lib.compact (bs.mergeSort leB)

/-! ### Lists that rise -/

abbrev Asc (l : List (List UInt8)) : Prop := l.Pairwise (· < ·)

theorem lt_irr {x : List UInt8} : ¬ x < x := List.lt_irrefl x

theorem asc_ext : ∀ {l m : List (List UInt8)}, Asc l → Asc m → (∀ x, x ∈ l ↔ x ∈ m) → l = m
  | [], m, _, _, h => by
    cases m with
    | nil => rfl
    | cons b m => exact absurd ((h b).2 (by simp)) (by simp)
  | a :: l, [], _, _, h => absurd ((h a).1 (by simp)) (by simp)
  | a :: l, b :: m, hl, hm, h => by
    obtain ⟨ha, hl'⟩ := List.pairwise_cons.1 hl
    obtain ⟨hb, hm'⟩ := List.pairwise_cons.1 hm
    have e : a = b := by
      rcases List.mem_cons.1 ((h a).1 (by simp)) with e | e
      · exact e
      · rcases List.mem_cons.1 ((h b).2 (by simp)) with e' | e'
        · exact e'.symm
        · exact absurd (List.lt_trans (ha b e') (hb a e)) lt_irr
    subst e
    rw [asc_ext hl' hm' (fun x => ?_)]
    constructor
    · intro hx
      rcases List.mem_cons.1 ((h x).1 (by simp [hx])) with e | e
      · exact absurd (ha x hx) (by rw [e]; exact lt_irr)
      · exact e
    · intro hx
      rcases List.mem_cons.1 ((h x).2 (by simp [hx])) with e | e
      · exact absurd (hb x hx) (by rw [e]; exact lt_irr)
      · exact e

theorem rises_iff : ∀ {l : List (List UInt8)}, rises l = true ↔ Asc l
  | [] => by simp [rises]
  | [x] => by simp [rises]
  | x :: y :: r => by
    unfold rises
    rw [Bool.and_eq_true, decide_eq_true_eq, rises_iff (l := y :: r)]
    show _ ↔ List.Pairwise (· < ·) (x :: y :: r)
    rw [List.pairwise_cons (a := x)]
    constructor
    · rintro ⟨h1, h2⟩
      refine ⟨fun z hz => ?_, h2⟩
      rcases List.mem_cons.1 hz with rfl | hz
      · exact h1
      · exact List.lt_trans h1 ((List.pairwise_cons.1 h2).1 z hz)
    · rintro ⟨h1, h2⟩
      exact ⟨h1 y (by simp), h2⟩

theorem put_mem (s x : List UInt8) : ∀ (l : List (List UInt8)), x ∈ put s l ↔ x = s ∨ x ∈ l
  | [] => by simp [put]
  | y :: r => by
    unfold put
    split
    · rw [List.mem_cons, put_mem s x r, List.mem_cons]
      constructor
      · rintro (h | h | h)
        · exact Or.inr (Or.inl h)
        · exact Or.inl h
        · exact Or.inr (Or.inr h)
      · rintro (h | h | h)
        · exact Or.inr (Or.inl h)
        · exact Or.inl h
        · exact Or.inr (Or.inr h)
    · split
      · next h =>
        subst h
        simp only [List.mem_cons]
        constructor
        · intro h; exact Or.inr h
        · rintro (h | h)
          · exact Or.inl h
          · exact h
      · simp only [List.mem_cons]

theorem put_asc (s : List UInt8) : ∀ {l : List (List UInt8)}, Asc l → Asc (put s l)
  | [], _ => by simp [put, Asc]
  | y :: r, h => by
    obtain ⟨h1, h2⟩ := List.pairwise_cons.1 h
    unfold put
    split
    · next hy =>
      refine List.pairwise_cons.2 ⟨fun z hz => ?_, put_asc s h2⟩
      rcases (put_mem s z r).1 hz with rfl | hz
      · exact hy
      · exact h1 z hz
    · split
      · exact h
      · next hy hne =>
        have hs : s < y := by
          rcases List.le_iff_lt_or_eq.1 (List.not_lt.1 hy) with h | h
          · exact h
          · exact absurd h.symm hne
        refine List.pairwise_cons.2 ⟨fun z hz => ?_, h⟩
        rcases List.mem_cons.1 hz with rfl | hz
        · exact hs
        · exact List.lt_trans hs (h1 z hz)

/-- slices.Compact, by its first element. -/
def compR : List (List UInt8) → List (List UInt8)
  | x :: y :: r => if x = y then compR (y :: r) else x :: compR (y :: r)
  | l => l

theorem compact_cons (x : List UInt8) (r : List (List UInt8)) : Lib.compact (x :: r) = x :: ((List.range r.length).filter fun j => Lib.keeps (x :: r).toArray (j + 1)).map fun j => r.toArray[j]! := by
  unfold Lib.compact Lib.compactUpTo
  rw [List.length_cons, List.range_succ_eq_map, List.filter_cons, if_pos (by simp [Lib.keeps]), List.map_cons, List.filter_map, List.map_map]
  congr 1
  apply List.map_congr_left
  intro j hj
  have hj' : j < r.length := List.mem_range.1 (List.mem_filter.1 hj).1
  simp [hj']

theorem mem_comp {zs : List (List UInt8)} {x : List UInt8} (h : x ∈ Lib.compact zs) : x ∈ zs := by
  unfold Lib.compact Lib.compactUpTo at h
  obtain ⟨i, hi, rfl⟩ := List.mem_map.1 h
  have hi' : i < zs.length := List.mem_range.1 (List.mem_filter.1 hi).1
  simp [getElem!_pos, hi']

/-- Each element is kept somewhere at or ahead of its place. -/
theorem comp_has {zs : List (List UInt8)} : ∀ (i : Nat), i < zs.length → zs.toArray[i]! ∈ Lib.compact zs
  | 0, h => by
    unfold Lib.compact Lib.compactUpTo
    refine List.mem_map.2 ⟨0, List.mem_filter.2 ⟨List.mem_range.2 h, by simp [Lib.keeps]⟩, rfl⟩
  | i + 1, h => by
    by_cases hk : Lib.keeps zs.toArray (i + 1) = true
    · unfold Lib.compact Lib.compactUpTo
      exact List.mem_map.2 ⟨i + 1, List.mem_filter.2 ⟨List.mem_range.2 h, hk⟩, rfl⟩
    · have e : zs.toArray[i + 1]! = zs.toArray[i]! := by
        simp [Lib.keeps] at hk
        simpa using hk
      rw [e]
      exact comp_has i (by omega)

theorem comp_mem {zs : List (List UInt8)} {x : List UInt8} : x ∈ Lib.compact zs ↔ x ∈ zs := by
  refine ⟨mem_comp, fun h => ?_⟩
  obtain ⟨i, hi, e⟩ := List.getElem_of_mem h
  have := comp_has (zs := zs) i hi
  rw [show zs.toArray[i]! = zs[i] by simp [getElem!_pos, hi]] at this
  rw [← e]; exact this

theorem comp_asc {zs : List (List UInt8)} (h : zs.Pairwise (· ≤ ·)) : Asc (Lib.compact zs) := by
  unfold Lib.compact Lib.compactUpTo
  refine List.pairwise_map.2 ?_
  have hr : ((List.range zs.length).filter (Lib.keeps zs.toArray)).Pairwise (fun i j => i < j ∧ j < zs.length ∧ Lib.keeps zs.toArray j = true) := by
    have h1 : ((List.range zs.length).filter (Lib.keeps zs.toArray)).Pairwise (· < ·) := List.Pairwise.filter _ List.pairwise_lt_range
    rw [List.pairwise_iff_getElem] at h1 ⊢
    intro i j hi hj hij
    have hm := List.mem_filter.1 (List.getElem_mem hj)
    exact ⟨h1 i j hi hj hij, List.mem_range.1 hm.1, hm.2⟩
  refine hr.imp ?_
  rintro i j ⟨hij, hj, hk⟩
  rw [List.pairwise_iff_getElem] at h
  have e1 : zs.toArray[i]! = zs[i] := by simp [getElem!_pos, show i < zs.length by omega]
  have e2 : zs.toArray[j]! = zs[j] := by simp [getElem!_pos, hj]
  have e3 : zs.toArray[j - 1]! = zs[j - 1] := by simp [getElem!_pos, show j - 1 < zs.length by omega]
  have hne : zs[j] ≠ zs[j - 1] := by
    unfold Lib.keeps at hk
    rw [decide_eq_true_eq] at hk
    rcases hk with h0 | h0
    · omega
    · rw [e2, e3] at h0; exact h0
  have hlt : zs[j - 1] < zs[j] := by
    rcases List.le_iff_lt_or_eq.1 (h (j - 1) j (by omega) hj (by omega)) with h0 | h0
    · exact h0
    · exact absurd h0.symm hne
  rw [e1, e2]
  by_cases hc : i = j - 1
  · subst hc; exact hlt
  · rcases List.le_iff_lt_or_eq.1 (h i (j - 1) (by omega) (by omega) (by omega)) with h0 | h0
    · exact List.lt_trans h0 hlt
    · rw [h0]; exact hlt

theorem sort_le (bs : List (List UInt8)) : (bs.mergeSort leB).Pairwise (· ≤ ·) := by
  have tr : ∀ a b c : List UInt8, leB a b = true → leB b c = true → leB a c = true := fun a b c h1 h2 => by simp only [leB, decide_eq_true_eq] at *; exact List.le_trans h1 h2
  have tot : ∀ a b : List UInt8, (leB a b || leB b a) = true := fun a b => by simp only [leB, Bool.or_eq_true, decide_eq_true_eq]; exact List.le_total a b
  exact (List.pairwise_mergeSort tr tot bs).imp (fun h => by simpa [leB] using h)

theorem rising_asc (bs : List (List UInt8)) : Asc (rising bs) := comp_asc (sort_le bs)

theorem rising_mem {bs : List (List UInt8)} {x : List UInt8} : x ∈ rising bs ↔ x ∈ bs := by
  unfold rising
  rw [comp_mem, List.mem_mergeSort]

/-- What rises is what it is when it is made to rise. -/
theorem rising_self {bs : List (List UInt8)} : rising bs = bs ↔ rises bs = true := by
  rw [rises_iff]
  constructor
  · intro h; rw [← h]; exact rising_asc bs
  · intro h; exact asc_ext (rising_asc bs) h (fun x => rising_mem)

theorem rising_nil : rising [] = [] := rising_self.2 rfl

theorem put_rising (s : List UInt8) (bs : List (List UInt8)) : put s (rising bs) = rising (bs ++ [s]) := by
  refine asc_ext (put_asc s (rising_asc bs)) (rising_asc _) (fun x => ?_)
  rw [put_mem, rising_mem, rising_mem, List.mem_append, List.mem_singleton]
  exact Or.comm

/-! ### What is shown, how heavy it is -/

def told (ns : List (List UInt8)) : List (List UInt8) := ns.filter fun s => !s.isEmpty

def marked10 (m : UInt8) (ns : List (List UInt8)) : List UInt8 := ns.flatMap fun s => m :: s

def partText (p : Pt) : List UInt8 := p.tag ++ marked10 61 (told [p.id]) ++ marked10 46 p.bs

def partTexts (p : Pt) : List (List UInt8) := (if p.near = true then [[62]] else []) ++ [partText p]

def showPick (ps : List Pt) : List UInt8 := if pickOk ps = true then P9.joinBy [32] (ps.flatMap partTexts) else []

def partWeight (p : Pt) : Int := 10000 * ((told [p.id]).length : Int) + 100 * (p.bs.length : Int) + ((told [p.tag]).length : Int)

def weightOf (ps : List Pt) : Int := if pickOk ps = true then (ps.map partWeight).sum else -1

/-! ### Cut at a token -/

def dotT : Tok := ⟨6, [46], 0⟩
def eqT : Tok := ⟨6, [61], 0⟩
def gtT : Tok := ⟨6, [62], 0⟩
def spT : Tok := ⟨5, [], 0⟩

def splitT (t : Tok) : List Tok → List (List Tok)
  | [] => [[]]
  | x :: r => if x.same t = true then [] :: splitT t r else match splitT t r with
    | [] => [[x]]
    | q :: qs => (x :: q) :: qs

theorem split_ne (t : Tok) (ts : List Tok) : splitT t ts ≠ [] := by
  cases ts with
  | nil => simp [splitT]
  | cons x r =>
    unfold splitT
    split
    · simp
    · split <;> simp

theorem split_hit {t x : Tok} (h : x.same t = true) (r : List Tok) : splitT t (x :: r) = [] :: splitT t r := by
  show (if x.same t = true then _ else _) = _
  rw [if_pos h]

theorem split_no {t x : Tok} (h : x.same t = false) {r q : List Tok} {qs : List (List Tok)} (e : splitT t r = q :: qs) : splitT t (x :: r) = (x :: q) :: qs := by
  show (if x.same t = true then _ else _) = _
  rw [if_neg (by rw [h]; decide), e]

theorem split_form (t : Tok) (ts : List Tok) : ∃ q qs, splitT t ts = q :: qs := by
  cases h : splitT t ts with
  | nil => exact absurd h (split_ne t ts)
  | cons q qs => exact ⟨q, qs, rfl⟩

/-- What stands ahead of the first such token and what behind it. -/
def cutK (t : Tok) (ts : List Tok) : Option (List Tok × List Tok) := match placeT t ts with
  | none => none
  | some i => some (ts.take i, ts.drop (i + 1))

theorem cutK_cons (t x : Tok) (r : List Tok) : cutK t (x :: r) = if x.same t = true then some ([], r) else (cutK t r).map fun q => (x :: q.1, q.2) := by
  unfold cutK placeT
  rw [List.findIdx?_cons]
  cases h : x.same t
  · simp only [Bool.false_eq_true, if_false]
    cases r.findIdx? (fun x => x.same t) with
    | none => rfl
    | some i => rfl
  · rfl

theorem split_cut (t : Tok) : ∀ (ts : List Tok), splitT t ts = match cutK t ts with
    | none => [ts]
    | some (p, q) => p :: splitT t q
  | [] => rfl
  | x :: r => by
    rw [cutK_cons]
    cases h : x.same t
    · rw [if_neg (by decide)]
      have ih := split_cut t r
      cases hr : cutK t r with
      | none => rw [hr] at ih; dsimp only at ih; rw [split_no h ih]; rfl
      | some pq =>
        obtain ⟨p, q⟩ := pq
        rw [hr] at ih
        dsimp only at ih
        rw [split_no h ih]; rfl
    · rw [if_pos rfl, split_hit h]

theorem cutK_len {t : Tok} {ts p q : List Tok} (h : cutK t ts = some (p, q)) : q.length + 1 ≤ ts.length ∧ p.length ≤ ts.length := by
  unfold cutK placeT at h
  split at h
  · cases h
  · next i hi =>
    cases h
    rw [List.findIdx?_eq_some_iff_getElem] at hi
    obtain ⟨hl, _⟩ := hi
    rw [List.length_drop, List.length_take]
    omega

theorem split_mem {t : Tok} : ∀ {ts q : List Tok}, q ∈ splitT t ts → ∀ x ∈ q, x ∈ ts
  | [], q, h, x, hx => by
    simp [splitT] at h
    subst h; cases hx
  | y :: r, q, h, x, hx => by
    cases hy : y.same t
    · obtain ⟨p, ps, e⟩ := split_form t r
      rw [split_no hy e] at h
      rcases List.mem_cons.1 h with rfl | h
      · rcases List.mem_cons.1 hx with rfl | hx
        · simp
        · exact List.mem_cons_of_mem _ (split_mem (t := t) (ts := r) (q := p) (by rw [e]; simp) x hx)
      · exact List.mem_cons_of_mem _ (split_mem (t := t) (ts := r) (q := q) (by rw [e]; simp [h]) x hx)
    · rw [split_hit hy] at h
      rcases List.mem_cons.1 h with rfl | h
      · cases hx
      · exact List.mem_cons_of_mem _ (split_mem h x hx)

theorem split_has {t : Tok} : ∀ {ts : List Tok} {x : Tok}, x ∈ ts → x.same t = false → ∃ q ∈ splitT t ts, x ∈ q
  | y :: r, x, h, hx => by
    cases hy : y.same t
    · obtain ⟨p, ps, e⟩ := split_form t r
      rw [split_no hy e]
      rcases List.mem_cons.1 h with rfl | h
      · exact ⟨x :: p, by simp, by simp⟩
      · obtain ⟨q, hq, hxq⟩ := split_has h hx
        rw [e] at hq
        rcases List.mem_cons.1 hq with rfl | hq
        · exact ⟨y :: q, by simp, by simp [hxq]⟩
        · exact ⟨q, by simp [hq], hxq⟩
    · rw [split_hit hy]
      rcases List.mem_cons.1 h with rfl | h
      · rw [hy] at hx; cases hx
      · obtain ⟨q, hq, hxq⟩ := split_has h hx
        exact ⟨q, by simp [hq], hxq⟩

/-! ### The program's reading -/

/-- A mark: a sign and a name behind it. -/
def withMark (p : Pt) (m : List Tok) : Option Pt := match m with
  | [a, b] => if b.k = 1 then (if a.same eqT = true then (if p.id = [] then some { p with id := b.t } else none) else if a.same dotT = true then some { p with bs := p.bs ++ [b.t] } else none) else none
  | _ => none

theorem withMark_two (p : Pt) (a b : Tok) : withMark p [a, b] = if b.k = 1 then (if a.same eqT = true then (if p.id = [] then some { p with id := b.t } else none) else if a.same dotT = true then some { p with bs := p.bs ++ [b.t] } else none) else none := rfl

def marksP : Pt → List Tok → Option Pt
  | p, [] => some p
  | _, [_] => none
  | p, a :: b :: r => match withMark p [a, b] with
    | some q => marksP q r
    | none => none

def tagOf (q : List Tok) : List UInt8 := match q with
  | [] => []
  | a :: _ => if a.k = 1 then a.t else []

def restOf (q : List Tok) : List Tok := match q with
  | [] => []
  | a :: r => if a.k = 1 then r else a :: r

def norm (p : Pt) : Pt := { p with bs := rising p.bs }

def readP (q : List Tok) : Pt := match marksP ⟨tagOf q, [], [], false⟩ (restOf q) with
  | some p => norm p
  | none => Pt.zero

def part10 (n : Bool) (q : List Tok) : Pt := { readP q with near := n }

def rowParts (n : Bool) (row : List Tok) : List Pt := match splitT spT (squeezedP row) with
  | [] => []
  | q :: qs => part10 n q :: qs.map (part10 false)

def guess (ts : List Tok) : List Pt := match splitT gtT ts with
  | [] => []
  | r :: rs => rowParts false r ++ rs.flatMap (rowParts true)

def finish (ps : List Pt) : Option (List Pt) := if pickOk ps = true then some ps else none

/-! ### The reference's reading -/

def marksR : Pt → List Tok → Option (Pt × List Tok)
  | p, a :: b :: r => if b.k = 1 ∧ (signIs a 46 = true ∨ signIs a 61 = true) then (if signIs a 46 = true then marksR { p with bs := put b.t p.bs } r else if p.id ≠ [] then none else marksR { p with id := b.t } r) else some (p, a :: b :: r)
  | p, l => some (p, l)

/-- The part that begins here and what stands behind it; none where none does. -/
def partR (l : List Tok) : Option (Pt × List Tok) := match marksR ⟨tagOf l, [], [], false⟩ (restOf l) with
  | none => none
  | some (p, r) => if r.length = l.length then none else some (p, r)

def sepT (x : Tok) : Bool := isSp x || signIs x 62

/-- What parts two parts: near or not, how many tokens, what stands behind; none where there are two >. -/
def sepsR : Bool → Nat → List Tok → Option (Bool × Nat × List Tok)
  | near, n, [] => some (near, n, [])
  | near, n, a :: r => if sepT a = true then (if signIs a 62 = true then (if near = true then none else sepsR true (n + 1) r) else sepsR near (n + 1) r) else some (near, n, a :: r)

/-- Ahead of a part. -/
def aheadR (first : Bool) (l : List Tok) : Option (Bool × List Tok) := if first = true then some (false, l) else match sepsR false 0 l with
  | none => none
  | some (near, n, r) => if n = 0 then none else some (near, r)

def loopR : Nat → List Pt → List Tok → Option (List Pt)
  | 0, _, _ => none
  | f + 1, out, l => match l with
    | [] => some out
    | _ :: _ => match aheadR out.isEmpty l with
      | none => none
      | some (near, l') => match partR l' with
        | none => none
        | some (p, r) => loopR f (out ++ [{ p with near := near }]) r

def readPick (ts : List Tok) : Option (List Pt) := if ts.all tokOk = true then (loopR (ts.length + 1) [] (squeeze ts)).bind finish else none

/-! ### That they read alike -/

/-- Pieces between spaces that are not empty. -/
def runs (row : List Tok) : List (List Tok) := (splitT spT row).filter fun q => !q.isEmpty

def wordsT (row : List Tok) : List (List Tok) := if runs row = [] then [[]] else runs row

/-- Each is right. -/
def Good (ts : List Tok) : Prop := ∀ x ∈ ts, tokP x = true

theorem Good.tail {x : Tok} {r : List Tok} (h : Good (x :: r)) : Good r := fun y hy => h y (by simp [hy])

theorem tokP_zero {x : Tok} (h : tokP x = true) (hk : x.k = 1 ∨ x.k = 5 ∨ x.k = 6) : x.n = 0 := by
  have e := tokP_self h
  rw [← e] at hk ⊢
  revert hk
  unfold nextTok
  repeat' split
  all_goals simp

theorem sp_same {x : Tok} (h : tokP x = true) : x.same spT = isSp x := by
  rw [Bool.eq_iff_iff, Tok.same_iff]
  unfold isSp spT
  rw [beq_iff_eq]
  constructor
  · rintro rfl; rfl
  · intro hk
    have h0 := tokP_zero h (Or.inr (Or.inl hk))
    obtain ⟨k, t, n⟩ := x
    dsimp only at hk h0
    subst hk h0
    rcases tokP_cases h with h | ⟨h, _⟩ | ⟨h, _⟩ | ⟨h, _⟩ | ⟨_, h⟩ | ⟨h, _⟩
    · cases h
    · cases h
    · cases h
    · cases h
    · dsimp only at h; rw [h]
    · rcases h with h | h <;> cases h

theorem sign_same {x : Tok} (h : tokP x = true) (c : UInt8) : x.same ⟨6, [c], 0⟩ = signIs x c := by
  unfold signIs
  rw [Bool.eq_iff_iff, Tok.same_iff]
  obtain ⟨k, t, n⟩ := x
  simp only [Tok.mk.injEq, Bool.and_eq_true, beq_iff_eq]
  constructor
  · rintro ⟨rfl, rfl, _⟩; exact ⟨rfl, rfl⟩
  · rintro ⟨rfl, rfl⟩; exact ⟨rfl, rfl, tokP_zero h (Or.inr (Or.inr rfl))⟩

theorem runs_sp {x : Tok} (h : x.same spT = true) (r : List Tok) : runs (x :: r) = runs r := by
  unfold runs
  rw [split_hit h, List.filter_cons, if_neg (by simp)]

/-- A token that is no space ahead of a space, or of nothing. -/
theorem runs_one {t : Tok} (ht : t.same spT = false) {r : List Tok} (hr : ∀ x, r.head? = some x → x.same spT = true) : runs (t :: r) = [t] :: runs r := by
  unfold runs
  cases r with
  | nil =>
    rw [split_no (q := []) (qs := []) ht rfl]
    rfl
  | cons x r =>
    have hx := hr x rfl
    rw [split_no (q := []) (qs := splitT spT r) ht (split_hit hx r), split_hit hx]
    rfl

theorem runs_more {t x : Tok} (ht : t.same spT = false) (hx : x.same spT = false) (r : List Tok) : ∃ q qs, runs (x :: r) = (x :: q) :: qs ∧ runs (t :: x :: r) = (t :: x :: q) :: qs := by
  obtain ⟨q, qs, e⟩ := split_form spT r
  refine ⟨q, qs.filter fun q => !q.isEmpty, ?_, ?_⟩
  · unfold runs; rw [split_no hx e]; rfl
  · unfold runs; rw [split_no ht (split_no hx e)]; rfl

theorem runs_head {t : Tok} (ht : t.same spT = false) (r : List Tok) : ∃ q qs, runs (t :: r) = (t :: q) :: qs := by
  obtain ⟨q, qs, e⟩ := split_form spT r
  exact ⟨q, qs.filter fun q => !q.isEmpty, by unfold runs; rw [split_no ht e]; rfl⟩

/-- The rows between the >, each by its runs. -/
def rowsT (ts : List Tok) : List (List (List Tok)) := (splitT gtT ts).map runs

def otherHd (r : List Tok) : Bool := match r with
  | [] => false
  | x :: _ => !x.same spT && !x.same gtT

def joinT (t : Tok) (r : List Tok) (row : List (List Tok)) : List (List Tok) := if otherHd r = true then (match row with
  | q :: qs => (t :: q) :: qs
  | [] => [[t]]) else [t] :: row

theorem sp_not_gt {x : Tok} (h : x.same spT = true) : x.same gtT = false := by
  rw [Tok.same_iff] at h
  subst h; rfl

theorem runs_nil : runs [] = [] := rfl

theorem rows_sp {x : Tok} (h : x.same spT = true) (r : List Tok) : rowsT (x :: r) = rowsT r := by
  obtain ⟨q, qs, e⟩ := split_form gtT r
  unfold rowsT
  rw [split_no (sp_not_gt h) e, e, List.map_cons, List.map_cons, runs_sp h]

theorem rows_gt {x : Tok} (h : x.same gtT = true) (r : List Tok) : rowsT (x :: r) = [] :: rowsT r := by
  unfold rowsT
  rw [split_hit h, List.map_cons, runs_nil]

theorem rows_other {t : Tok} (ht : t.same spT = false) (hg : t.same gtT = false) (r : List Tok) : ∃ row rows, rowsT r = row :: rows ∧ rowsT (t :: r) = joinT t r row :: rows := by
  obtain ⟨q, qs, e⟩ := split_form gtT r
  refine ⟨runs q, qs.map runs, by unfold rowsT; rw [e]; rfl, ?_⟩
  unfold rowsT
  rw [split_no hg e, List.map_cons]
  congr 1
  cases r with
  | nil =>
    simp only [splitT, List.cons.injEq] at e
    obtain ⟨rfl, _⟩ := e
    exact runs_one ht (fun x hx => by cases hx)
  | cons x r =>
    have ho : otherHd (x :: r) = (!x.same spT && !x.same gtT) := rfl
    unfold joinT
    rw [ho]
    cases hx : x.same spT
    · cases hxg : x.same gtT
      · obtain ⟨q', qs', e'⟩ := split_form gtT r
        rw [split_no hxg e'] at e
        injection e with e1 e2
        subst e1
        obtain ⟨u, us, h1, h2⟩ := runs_more ht hx q'
        rw [if_pos (show (!false && !false) = true from rfl), h1, h2]
      · rw [split_hit hxg] at e
        injection e with e1 e2
        subst e1
        rw [if_neg (by decide)]
        exact runs_one ht (fun x hx => by cases hx)
    · obtain ⟨q', qs', e'⟩ := split_form gtT r
      rw [split_no (sp_not_gt hx) e'] at e
      injection e with e1 e2
      subst e1
      rw [if_neg (by simp)]
      exact runs_one ht (fun y hy => by injection hy with hy; rw [← hy]; exact hx)

theorem spNext_hd {r : List Tok} (hg : Good r) (h : spNext r = true) : otherHd r = false := by
  cases r with
  | nil => rfl
  | cons x r =>
    have : x.same spT = true := by rw [sp_same (hg x (by simp))]; exact h
    show (!x.same spT && _) = false
    rw [this]; rfl

theorem sq_hd : ∀ (ts : List Tok), Good ts → otherHd (sqP false ts) = otherHd ts
  | [], _ => rfl
  | x :: r, h => by
    unfold sqP
    split
    · next hc =>
      have hn : spNext r = true := by
        rcases hc.2 with h0 | h0
        · cases h0
        · exact h0
      rw [sq_hd r h.tail, spNext_hd h.tail hn]
      have : x.same spT = true := by rw [sp_same (h x (by simp))]; exact hc.1
      show false = (!x.same spT && _)
      rw [this]; rfl
    · rfl

theorem rows_sq : ∀ (f : Bool) (ts : List Tok), Good ts → rowsT (sqP f ts) = rowsT ts
  | _, [], _ => by unfold sqP; rfl
  | f, x :: r, h => by
    unfold sqP
    split
    · next hc => rw [rows_sq f r h.tail, rows_sp (by rw [sp_same (h x (by simp))]; exact hc.1)]
    · have ih := rows_sq false r h.tail
      cases hs : x.same spT
      · cases hg : x.same gtT
        · obtain ⟨row, rows, e1, e2⟩ := rows_other hs hg (sqP false r)
          obtain ⟨row', rows', e1', e2'⟩ := rows_other hs hg r
          rw [ih, e1'] at e1
          injection e1 with h1 h2
          subst h1 h2
          rw [e2, e2']
          unfold joinT
          rw [sq_hd r h.tail]
        · rw [rows_gt hg, rows_gt hg, ih]
      · rw [rows_sp hs, rows_sp hs, ih]

theorem split_words1 : ∀ (ts : List Tok) (t : Tok), Good ts → t.same spT = false → splitT spT (t :: sqP false ts) = runs (t :: ts)
  | [], t, _, ht => by
    have e : sqP false [] = [] := by unfold sqP; rfl
    rw [e, split_no (q := []) (qs := []) ht rfl, runs_one ht (fun x hx => by cases hx)]
    rfl
  | x :: r, t, h, ht => by
    cases hs : x.same spT
    · have e : sqP false (x :: r) = x :: sqP false r := by
        show (if _ then _ else _) = _
        rw [if_neg (by rw [← sp_same (h x (by simp)), hs]; simp)]
      have ih := split_words1 r x h.tail hs
      obtain ⟨q, qs, e1, e2⟩ := runs_more ht hs r
      rw [e1] at ih
      rw [e, split_no ht ih, e2]
    · have hs' : isSp x = true := by rw [← sp_same (h x (by simp))]; exact hs
      cases hn : spNext r
      · cases r with
        | nil => cases hn
        | cons y r' =>
          have hy : y.same spT = false := by rw [sp_same (h y (by simp))]; exact hn
          have e : sqP false (x :: y :: r') = x :: sqP false (y :: r') := by
            show (if _ then _ else _) = _
            rw [if_neg (by rw [hn]; simp)]
          have e' : sqP false (y :: r') = y :: sqP false r' := by
            show (if _ then _ else _) = _
            rw [if_neg (by rw [← sp_same (h y (by simp)), hy]; simp)]
          have ih := split_words1 (y :: r') t h.tail ht
          obtain ⟨q', qs', e1, e2⟩ := runs_more ht hy r'
          obtain ⟨q, qs, es⟩ := split_form spT (sqP false (y :: r'))
          rw [split_no ht es, e2] at ih
          injection ih with i1 i2
          injection i1 with _ i1
          rw [e, split_no ht (split_hit hs _), es, runs_one ht (fun z hz => by injection hz with hz; rw [← hz]; exact hs), runs_sp hs, e1, i1, i2]
      · have e : sqP false (x :: r) = sqP false r := by
          show (if _ then _ else _) = _
          rw [if_pos ⟨hs', Or.inr hn⟩]
        have hh : ∀ z, r.head? = some z → z.same spT = true := fun z hz => by
          cases r with
          | nil => cases hz
          | cons y r' =>
            injection hz with hz
            rw [← hz, sp_same (h y (by simp))]
            exact hn
        rw [e, split_words1 r t h.tail ht, runs_one ht hh, runs_one ht (fun z hz => by injection hz with hz; rw [← hz]; exact hs), runs_sp hs]

theorem split_words : ∀ (ts : List Tok), Good ts → splitT spT (sqP true ts) = wordsT ts
  | [], _ => by unfold sqP; rfl
  | x :: r, h => by
    cases hs : x.same spT
    · have e : sqP true (x :: r) = x :: sqP false r := by
        show (if _ then _ else _) = _
        rw [if_neg (by rw [← sp_same (h x (by simp)), hs]; simp)]
      rw [e, split_words1 r x h.tail hs]
      obtain ⟨q, qs, er⟩ := runs_head hs r
      unfold wordsT
      rw [er, if_neg (by simp)]
    · have e : sqP true (x :: r) = sqP true r := by
        show (if _ then _ else _) = _
        rw [if_pos ⟨by rw [← sp_same (h x (by simp))]; exact hs, Or.inl rfl⟩]
      rw [e, split_words r h.tail]
      unfold wordsT
      rw [runs_sp hs]

def rowP (n : Bool) (rs : List (List Tok)) : List Pt := match (if rs = [] then [[]] else rs) with
  | [] => []
  | q :: qs => part10 n q :: qs.map (part10 false)

theorem squeezedP_good {ts : List Tok} (h : Good ts) : squeezedP ts = sqP true ts := by
  unfold squeezedP
  rw [if_pos (List.all_eq_true.2 h)]

theorem rowParts_is (n : Bool) {row : List Tok} (h : Good row) : rowParts n row = rowP n (runs row) := by
  unfold rowParts rowP
  rw [squeezedP_good h, split_words row h]
  rfl

def startP (rows : List (List (List Tok))) : List Pt := match rows with
  | [] => []
  | r :: rs => rowP false r ++ rs.flatMap (rowP true)

def tailP (rows : List (List (List Tok))) : List Pt := match rows with
  | [] => []
  | r :: rs => r.map (part10 false) ++ rs.flatMap (rowP true)

theorem flat_rows (n : Bool) : ∀ (rs : List (List Tok)), (∀ r ∈ rs, Good r) → rs.flatMap (rowParts n) = (rs.map runs).flatMap (rowP n)
  | [], _ => rfl
  | r :: rs, h => by
    rw [List.flatMap_cons, List.map_cons, List.flatMap_cons, rowParts_is n (h r (by simp)), flat_rows n rs (fun x hx => h x (by simp [hx]))]

theorem guess_is {ts : List Tok} (h : Good ts) : guess ts = startP (rowsT ts) := by
  obtain ⟨q, qs, e⟩ := split_form gtT ts
  have hq : ∀ r ∈ q :: qs, Good r := fun r hr x hx => h x (split_mem (t := gtT) (ts := ts) (q := r) (by rw [e]; exact hr) x hx)
  unfold guess rowsT
  rw [e]
  show rowParts false q ++ qs.flatMap (rowParts true) = rowP false (runs q) ++ (qs.map runs).flatMap (rowP true)
  rw [rowParts_is false (hq q (by simp)), flat_rows true qs (fun r hr => hq r (by simp [hr]))]

theorem finish_bad {ps : List Pt} {p : Pt} (hp : p ∈ ps) (h : partOk p = false) : finish ps = none := by
  unfold finish
  rw [if_neg]
  intro hk
  unfold pickOk at hk
  simp only [Bool.and_eq_true] at hk
  have := List.all_eq_true.1 hk.1.1.1 p hp
  rw [h] at this; cases this

theorem empty_bad (n : Bool) : partOk ⟨[], [], [], n⟩ = false := by
  simp [partOk, badgesOk, rises]

theorem read_nil : readP [] = Pt.zero := by
  show norm ⟨[], [], [], false⟩ = _
  unfold norm
  rw [rising_nil]
  rfl

theorem bad_nil (n : Bool) : partOk (part10 n []) = false := by
  unfold part10
  rw [read_nil]
  exact empty_bad n

theorem rowP_nil (n : Bool) : rowP n [] = [part10 n []] := rfl

theorem rowP_cons (n : Bool) (q : List Tok) (qs : List (List Tok)) : rowP n (q :: qs) = part10 n q :: qs.map (part10 false) := rfl

/-! ### The reference's parts -/

def full : Option (Pt × List Tok) → Option Pt
  | some (p, []) => some p
  | _ => none

theorem sign_apart {a : Tok} {c d : UInt8} (h : signIs a c = true) (hcd : c ≠ d) : signIs a d = false := by
  unfold signIs at h ⊢
  simp only [Bool.and_eq_true, beq_iff_eq] at h
  rw [h.2]
  simp [hcd]

theorem marks_eq : ∀ (p : Pt) (q : List Tok), Good q → full (marksR (norm p) q) = (marksP p q).map norm
  | p, [], _ => rfl
  | p, [a], _ => rfl
  | p, a :: b :: r, h => by
    have ha : tokP a = true := h a (by simp)
    have hr : Good r := fun x hx => h x (by simp [hx])
    have s1 : a.same eqT = signIs a 61 := sign_same ha 61
    have s2 : a.same dotT = signIs a 46 := sign_same ha 46
    show full (if _ then (if _ then _ else if _ then _ else _) else _) = Option.map norm (match withMark p [a, b] with
      | some q => marksP q r
      | none => none)
    rw [withMark_two, s1, s2]
    by_cases hb : b.k = 1
    · rw [if_pos hb]
      cases h46 : signIs a 46
      · cases h61 : signIs a 61
        · rw [if_neg (by simp), if_neg (by simp), if_neg (by simp)]
          rfl
        · rw [if_pos ⟨hb, Or.inr rfl⟩, if_neg (by simp), if_pos rfl]
          show full (if p.id ≠ [] then none else _) = _
          by_cases hi : p.id = []
          · rw [if_neg (by simp [hi]), if_pos hi]
            exact marks_eq { p with id := b.t } r hr
          · rw [if_pos hi, if_neg hi]
            rfl
      · have h61 := sign_apart h46 (d := 61) (by decide)
        rw [h61, if_pos ⟨hb, Or.inl rfl⟩, if_pos rfl, if_neg (by simp), if_pos rfl]
        have := marks_eq { p with bs := p.bs ++ [b.t] } r hr
        rw [← this]
        show full (marksR { p with bs := put b.t (rising p.bs) } r) = full (marksR { p with bs := rising (p.bs ++ [b.t]) } r)
        rw [put_rising]
    · rw [if_neg (fun hc => hb hc.1), if_neg hb]
      rfl

/-- Nothing, or what parts two parts. -/
def SepHd (r : List Tok) : Prop := r = [] ∨ ∃ s t, r = s :: t ∧ sepT s = true

theorem sep_not {s : Tok} (h : sepT s = true) : s.k ≠ 1 ∧ signIs s 46 = false ∧ signIs s 61 = false := by
  unfold sepT at h
  rw [Bool.or_eq_true] at h
  rcases h with h | h
  · have hk : s.k = 5 := by simpa [isSp] using h
    refine ⟨by omega, ?_, ?_⟩ <;> · unfold signIs; rw [hk]; rfl
  · refine ⟨?_, sign_apart h (by decide), sign_apart h (by decide)⟩
    unfold signIs at h
    simp only [Bool.and_eq_true, beq_iff_eq] at h
    omega

theorem marks_sep {rest : List Tok} (h : SepHd rest) (p : Pt) : marksR p rest = some (p, rest) := by
  rcases h with rfl | ⟨s, t, rfl, hs⟩
  · rfl
  · cases t with
    | nil => rfl
    | cons b r =>
      obtain ⟨_, h1, h2⟩ := sep_not hs
      show (if _ then _ else _) = _
      rw [if_neg (by rw [h1, h2]; simp)]

theorem marks_app {rest : List Tok} (h : SepHd rest) : ∀ (p : Pt) (q : List Tok), marksR p (q ++ rest) = (marksR p q).map fun x => (x.1, x.2 ++ rest)
  | p, [] => marks_sep h p
  | p, [a] => by
    rcases h with rfl | ⟨s, t, rfl, hs⟩
    · rfl
    · show (if _ then _ else _) = _
      rw [if_neg (fun hc => (sep_not hs).1 hc.1)]
      rfl
  | p, a :: b :: r => by
    show (if _ then (if _ then _ else if _ then _ else _) else _) = Option.map _ (if _ then (if _ then _ else if _ then _ else _) else _)
    split
    · split
      · exact marks_app h _ r
      · split
        · rfl
        · exact marks_app h _ r
    · rfl

theorem marks_sub : ∀ (p : Pt) (q : List Tok) (p' : Pt) (r : List Tok), marksR p q = some (p', r) → r.length ≤ q.length ∧ ∀ x ∈ r, x ∈ q
  | p, [], p', r, h => by
    injection h with h; injection h with _ h; subst h
    exact ⟨Nat.le_refl _, fun x hx => hx⟩
  | p, [a], p', r, h => by
    injection h with h; injection h with _ h; subst h
    exact ⟨Nat.le_refl _, fun x hx => hx⟩
  | p, a :: b :: t, p', r, h => by
    have h' : (if b.k = 1 ∧ (signIs a 46 = true ∨ signIs a 61 = true) then (if signIs a 46 = true then marksR { p with bs := put b.t p.bs } t else if p.id ≠ [] then none else marksR { p with id := b.t } t) else some (p, a :: b :: t)) = some (p', r) := h
    split at h'
    · split at h'
      · obtain ⟨h1, h2⟩ := marks_sub _ t p' r h'
        exact ⟨by simp; omega, fun x hx => by simp [h2 x hx]⟩
      · split at h'
        · cases h'
        · obtain ⟨h1, h2⟩ := marks_sub _ t p' r h'
          exact ⟨by simp; omega, fun x hx => by simp [h2 x hx]⟩
    · injection h' with h'; injection h' with _ h'; subst h'
      exact ⟨Nat.le_refl _, fun x hx => hx⟩

theorem restOf_sub (q : List Tok) : (restOf q).length ≤ q.length ∧ ∀ x ∈ restOf q, x ∈ q := by
  unfold restOf
  split
  · exact ⟨Nat.le_refl _, fun x hx => hx⟩
  · split
    · exact ⟨by simp, fun x hx => by simp [hx]⟩
    · exact ⟨Nat.le_refl _, fun x hx => hx⟩

theorem partR_sub {q : List Tok} {p : Pt} {r : List Tok} (h : partR q = some (p, r)) : r.length < q.length ∧ ∀ x ∈ r, x ∈ q := by
  unfold partR at h
  split at h
  · cases h
  · next p' r' hm =>
    split at h
    · cases h
    · next hne =>
      injection h with h; injection h with h1 h2
      subst h1 h2
      obtain ⟨h1, h2⟩ := marks_sub _ _ _ _ hm
      obtain ⟨h3, h4⟩ := restOf_sub q
      exact ⟨by omega, fun x hx => h4 x (h2 x hx)⟩

theorem partR_app {q rest : List Tok} (hq : q ≠ []) (h : SepHd rest) : partR (q ++ rest) = (partR q).map fun x => (x.1, x.2 ++ rest) := by
  cases q with
  | nil => exact absurd rfl hq
  | cons a q =>
    have e1 : tagOf (a :: q ++ rest) = tagOf (a :: q) := rfl
    have e2 : restOf (a :: q ++ rest) = restOf (a :: q) ++ rest := by
      show (if a.k = 1 then q ++ rest else a :: (q ++ rest)) = (if a.k = 1 then q else a :: q) ++ rest
      split <;> rfl
    unfold partR
    rw [e1, e2, marks_app h]
    cases marksR ⟨tagOf (a :: q), [], [], false⟩ (restOf (a :: q)) with
    | none => rfl
    | some x =>
      obtain ⟨p, r⟩ := x
      show (if (r ++ rest).length = (a :: q ++ rest).length then none else some (p, r ++ rest)) = Option.map _ (if r.length = (a :: q).length then none else some (p, r))
      by_cases hl : r.length = (a :: q).length
      · rw [if_pos hl, if_pos (by rw [List.length_append, List.length_append, hl])]; rfl
      · rw [if_neg hl, if_neg (by rw [List.length_append, List.length_append]; omega)]; rfl

theorem norm_start (q : List Tok) : norm ⟨tagOf q, [], [], false⟩ = ⟨tagOf q, [], [], false⟩ := by
  unfold norm
  rw [rising_nil]

theorem read_full {q : List Tok} {p : Pt} (hg : Good q) (h : partR q = some (p, [])) : readP q = p := by
  unfold partR at h
  split at h
  · cases h
  · next p' r' hm =>
    split at h
    · cases h
    · injection h with h; injection h with h1 h2
      subst h1 h2
      have := marks_eq ⟨tagOf q, [], [], false⟩ (restOf q) (fun x hx => hg x ((restOf_sub q).2 x hx))
      rw [norm_start, hm] at this
      unfold readP
      cases hp : marksP ⟨tagOf q, [], [], false⟩ (restOf q) with
      | none => rw [hp] at this; cases this
      | some p0 =>
        rw [hp] at this
        injection this with this
        exact this.symm

theorem read_else {q : List Tok} (hg : Good q) (hq : q ≠ []) (h : ∀ p, partR q ≠ some (p, [])) : readP q = Pt.zero := by
  have hm := marks_eq ⟨tagOf q, [], [], false⟩ (restOf q) (fun x hx => hg x ((restOf_sub q).2 x hx))
  rw [norm_start] at hm
  have hf : full (marksR ⟨tagOf q, [], [], false⟩ (restOf q)) = none := by
    cases hx : marksR ⟨tagOf q, [], [], false⟩ (restOf q) with
    | none => rfl
    | some x =>
      obtain ⟨p, r⟩ := x
      cases r with
      | cons a r => rfl
      | nil =>
        exfalso
        refine h p ?_
        unfold partR
        rw [hx]
        show (if ([] : List Tok).length = q.length then none else some (p, [])) = _
        rw [if_neg]
        intro e0
        exact hq (List.length_eq_zero_iff.1 e0.symm)
  rw [hf] at hm
  unfold readP
  cases hp : marksP ⟨tagOf q, [], [], false⟩ (restOf q) with
  | none => rfl
  | some p0 => rw [hp] at hm; cases hm

/-! ### The reference's way over a list -/

theorem seps_true : ∀ (n : Nat) (r : List Tok), Good r → match sepsR true n r with
    | none => ∃ rows, rowsT r = [] :: rows
    | some (b, _, r') => b = true ∧ rowsT r = rowsT r'
  | n, [], _ => ⟨rfl, rfl⟩
  | n, a :: r, h => by
    have ha := h a (by simp)
    have e1 := sp_same ha
    have e2 : a.same gtT = signIs a 62 := sign_same ha 62
    unfold sepsR sepT
    cases hg : signIs a 62
    · cases hs : isSp a
      · simp
      · rw [hs] at e1
        have ih := seps_true (n + 1) r h.tail
        simp only [Bool.true_or, if_true, Bool.false_eq_true, if_false]
        rw [rows_sp e1]
        exact ih
    · rw [hg] at e2
      simp only [Bool.or_true, if_true]
      exact ⟨_, rows_gt e2 r⟩

theorem seps_false : ∀ (n : Nat) (r : List Tok), Good r → match sepsR false n r with
    | none => ∃ rows, rowsT r = [] :: [] :: rows
    | some (b, _, r') => (b = false ∧ rowsT r = rowsT r' ∧ (r' = [] → ∀ x ∈ r, isSp x = true)) ∨ (b = true ∧ rowsT r = [] :: rowsT r')
  | n, [], _ => Or.inl ⟨rfl, rfl, fun _ x hx => by cases hx⟩
  | n, a :: r, h => by
    have ha := h a (by simp)
    have e1 := sp_same ha
    have e2 : a.same gtT = signIs a 62 := sign_same ha 62
    unfold sepsR sepT
    cases hg : signIs a 62
    · cases hs : isSp a
      · simp
      · rw [hs] at e1
        have ih := seps_false (n + 1) r h.tail
        simp only [Bool.true_or, if_true, Bool.false_eq_true, if_false]
        rw [rows_sp e1]
        cases hx : sepsR false (n + 1) r with
        | none => rw [hx] at ih; exact ih
        | some x =>
          obtain ⟨b, m, r'⟩ := x
          rw [hx] at ih
          rcases ih with ⟨i1, i2, i3⟩ | i
          · exact Or.inl ⟨i1, i2, fun h0 x hx => by
              rcases List.mem_cons.1 hx with rfl | hx
              · exact hs
              · exact i3 h0 x hx⟩
          · exact Or.inr i
    · rw [hg] at e2
      have ih := seps_true (n + 1) r h.tail
      simp only [Bool.or_true, if_true, Bool.false_eq_true, if_false]
      rw [rows_gt e2]
      cases hx : sepsR true (n + 1) r with
      | none => rw [hx] at ih; obtain ⟨rows, e⟩ := ih; exact ⟨rows, by rw [e]⟩
      | some x =>
        obtain ⟨b, m, r'⟩ := x
        rw [hx] at ih
        exact Or.inr ⟨ih.1, by rw [ih.2]⟩

theorem seps_rest : ∀ (b0 : Bool) (n : Nat) (r : List Tok) (b : Bool) (m : Nat) (r' : List Tok), sepsR b0 n r = some (b, m, r') → n ≤ m ∧ (∃ p, r = p ++ r') ∧ (r' = [] ∨ ∃ x t, r' = x :: t ∧ sepT x = false) ∧ (∀ s t, r = s :: t → sepT s = true → n < m)
  | b0, n, [], b, m, r', h => by
    injection h with h; injection h with h1 h2; injection h2 with h2 h3
    subst h1 h2 h3
    exact ⟨Nat.le_refl _, ⟨[], rfl⟩, Or.inl rfl, fun s t e => by cases e⟩
  | b0, n, a :: r, b, m, r', h => by
    have h' : (if sepT a = true then (if signIs a 62 = true then (if b0 = true then none else sepsR true (n + 1) r) else sepsR b0 (n + 1) r) else some (b0, n, a :: r)) = some (b, m, r') := h
    split at h'
    · have key : ∀ b1, sepsR b1 (n + 1) r = some (b, m, r') → n ≤ m ∧ (∃ p, a :: r = p ++ r') ∧ (r' = [] ∨ ∃ x t, r' = x :: t ∧ sepT x = false) ∧ (∀ s t, a :: r = s :: t → sepT s = true → n < m) := fun b1 hb => by
        obtain ⟨h1, ⟨p, h2⟩, h3, _⟩ := seps_rest b1 (n + 1) r b m r' hb
        exact ⟨by omega, ⟨a :: p, by rw [h2]; rfl⟩, h3, fun _ _ _ _ => by omega⟩
      split at h'
      · split at h'
        · cases h'
        · exact key _ h'
      · exact key _ h'
    · next hs =>
      injection h' with h'; injection h' with h1 h2; injection h2 with h2 h3
      subst h1 h2 h3
      exact ⟨Nat.le_refl _, ⟨[], rfl⟩, Or.inr ⟨a, r, rfl, by simpa using hs⟩, fun s t e hs' => by injection e with e1 e2; subst e1; exact absurd hs' hs⟩

/-- Not ended by a space. -/
def NT (r : List Tok) : Prop := ∀ x, r.getLast? = some x → isSp x = false

theorem NT.suffix {p r : List Tok} (h : NT (p ++ r)) : NT r := fun x hx => h x (by rw [List.getLast?_append, hx]; rfl)

/-- The first piece and what stands behind it. -/
theorem piece_split : ∀ (l : List Tok) (x : Tok) (t : List Tok), l = x :: t → sepT x = false → ∃ q rest, l = q ++ rest ∧ q ≠ [] ∧ (∀ y ∈ q, sepT y = false) ∧ SepHd rest
  | _, x, [], rfl, hx => ⟨[x], [], rfl, by simp, fun y hy => by simp at hy; rw [hy]; exact hx, Or.inl rfl⟩
  | _, x, y :: t, rfl, hx => by
    cases hy : sepT y
    · obtain ⟨q, rest, e, hq, hn, hr⟩ := piece_split (y :: t) y t rfl hy
      exact ⟨x :: q, rest, by rw [e]; rfl, by simp, fun z hz => by
        rcases List.mem_cons.1 hz with rfl | hz
        · exact hx
        · exact hn z hz, hr⟩
    · exact ⟨[x], y :: t, rfl, by simp, fun z hz => by simp at hz; rw [hz]; exact hx, Or.inr ⟨y, t, rfl, hy⟩⟩

theorem sep_split {x : Tok} (h : tokP x = true) (hs : sepT x = false) : x.same spT = false ∧ x.same gtT = false := by
  unfold sepT at hs
  rw [Bool.or_eq_false_iff] at hs
  exact ⟨by rw [sp_same h]; exact hs.1, by rw [show x.same gtT = signIs x 62 from sign_same h 62]; exact hs.2⟩

theorem sepHd_other {r : List Tok} (hg : Good r) (h : SepHd r) : otherHd r = false := by
  rcases h with rfl | ⟨s, t, rfl, hs⟩
  · rfl
  · have hp := hg s (by simp)
    show (!s.same spT && !s.same gtT) = false
    rw [sp_same hp, show s.same gtT = signIs s 62 from sign_same hp 62]
    unfold sepT at hs
    cases h1 : isSp s <;> cases h2 : signIs s 62 <;> simp_all

theorem rows_piece : ∀ (q rest : List Tok), q ≠ [] → Good (q ++ rest) → (∀ y ∈ q, sepT y = false) → SepHd rest → ∃ row rows, rowsT rest = row :: rows ∧ rowsT (q ++ rest) = (q :: row) :: rows
  | [], _, h, _, _, _ => absurd rfl h
  | [t], rest, _, hg, hn, hr => by
    obtain ⟨h1, h2⟩ := sep_split (hg t (by simp)) (hn t (by simp))
    obtain ⟨row, rows, e1, e2⟩ := rows_other h1 h2 rest
    refine ⟨row, rows, e1, ?_⟩
    show rowsT (t :: rest) = _
    rw [e2]
    unfold joinT
    rw [if_neg (by rw [sepHd_other (fun x hx => hg x (by simp [hx])) hr]; decide)]
  | t :: t2 :: q, rest, _, hg, hn, hr => by
    obtain ⟨row, rows, e1, e2⟩ := rows_piece (t2 :: q) rest (by simp) (fun x hx => hg x (by simp at hx ⊢; right; exact hx)) (fun y hy => hn y (by simp at hy ⊢; right; exact hy)) hr
    obtain ⟨h1, h2⟩ := sep_split (hg t (by simp)) (hn t (by simp))
    obtain ⟨h3, h4⟩ := sep_split (hg t2 (by simp)) (hn t2 (by simp))
    obtain ⟨row', rows', e1', e2'⟩ := rows_other h1 h2 (t2 :: q ++ rest)
    refine ⟨row, rows, e1, ?_⟩
    show rowsT (t :: (t2 :: q ++ rest)) = _
    rw [e2] at e1'
    injection e1' with i1 i2
    subst i1 i2
    rw [e2']
    unfold joinT
    rw [if_pos (by show (!t2.same spT && !t2.same gtT) = true; rw [h3, h4]; rfl)]

theorem loop_nil (f : Nat) (out : List Pt) : loopR (f + 1) out [] = some out := rfl

theorem loop_cons (f : Nat) (out : List Pt) (x : Tok) (t : List Tok) : loopR (f + 1) out (x :: t) = match aheadR out.isEmpty (x :: t) with
    | none => none
    | some (near, l') => match partR l' with
      | none => none
      | some (p, r) => loopR f (out ++ [{ p with near := near }]) r := rfl

theorem loop_bad : ∀ (f : Nat) (out : List Pt) (x : Tok) (t : List Tok), out ≠ [] → sepT x = false → loopR f out (x :: t) = none
  | 0, _, _, _, _, _ => rfl
  | f + 1, out, x, t, ho, hx => by
    have e : out.isEmpty = false := by cases out with
      | nil => exact absurd rfl ho
      | cons _ _ => rfl
    rw [loop_cons, e]
    unfold aheadR
    rw [if_neg (by decide)]
    unfold sepsR
    rw [if_neg (by rw [hx]; decide)]
    rfl

/-- One part more: what both make of a piece. -/
theorem loop_piece (f : Nat) (out : List Pt) (near : Bool) (q rest : List Tok) (hq : q ≠ []) (hn : ∀ y ∈ q, sepT y = false) (hr : SepHd rest) (hg : Good (q ++ rest)) (X : List Pt)
    (ih : ∀ p, (loopR f (out ++ [p]) rest).bind finish = finish (out ++ [p] ++ X)) :
    ((match partR (q ++ rest) with
      | none => none
      | some (p, r) => loopR f (out ++ [{ p with near := near }]) r).bind finish) = finish (out ++ part10 near q :: X) := by
  have hgq : Good q := fun x hx => hg x (by simp [hx])
  have bad : readP q = Pt.zero → finish (out ++ part10 near q :: X) = none := fun h0 =>
    finish_bad (p := part10 near q) (by simp) (by unfold part10; rw [h0]; exact empty_bad near)
  rw [partR_app hq hr]
  cases hp : partR q with
  | none =>
    rw [bad (read_else hgq hq (fun p => by rw [hp]; simp))]
    rfl
  | some x =>
    obtain ⟨p, r⟩ := x
    cases r with
    | nil =>
      have e := read_full hgq hp
      show (loopR f (out ++ [{ p with near := near }]) rest).bind finish = _
      rw [ih]
      unfold part10
      rw [e]
      simp
    | cons y r =>
      rw [bad (read_else hgq hq (fun p' => by rw [hp]; simp))]
      have hy : sepT y = false := hn y ((partR_sub hp).2 y (by simp))
      show (loopR f (out ++ [{ p with near := near }]) (y :: r ++ rest)).bind finish = none
      rw [List.cons_append, loop_bad f _ y (r ++ rest) (by simp) hy]
      rfl

theorem loop_is : ∀ (f : Nat) (out : List Pt) (r : List Tok), out ≠ [] → r.length < f → Good r → NT r → SepHd r → (loopR f out r).bind finish = finish (out ++ tailP (rowsT r))
  | 0, _, _, _, hl, _, _, _ => absurd hl (Nat.not_lt_zero _)
  | f + 1, out, r, ho, hl, hg, hnt, hs => by
    rcases hs with rfl | ⟨x, t, rfl, hx⟩
    · rw [loop_nil]
      show finish out = finish (out ++ tailP [[]])
      rw [show tailP [[]] = [] from rfl, List.append_nil]
    · have e : out.isEmpty = false := by cases out with
        | nil => exact absurd rfl ho
        | cons _ _ => rfl
      rw [loop_cons, e]
      unfold aheadR
      rw [if_neg (by decide)]
      have hsf := seps_false 0 (x :: t) hg
      cases hsr : sepsR false 0 (x :: t) with
      | none =>
        rw [hsr] at hsf
        obtain ⟨rows, er⟩ := hsf
        rw [er]
        exact (finish_bad (p := part10 true []) (by simp [tailP, rowP_nil]) (bad_nil true)).symm
      | some w =>
        obtain ⟨near, n, r'⟩ := w
        rw [hsr] at hsf
        obtain ⟨_, ⟨p, hp⟩, hrest, hlt⟩ := seps_rest false 0 _ near n r' hsr
        have hn0 : n ≠ 0 := by have := hlt x t rfl hx; omega
        show (match (if n = 0 then none else some (near, r') : Option (Bool × List Tok)) with
          | none => none
          | some (near, l') => match partR l' with
            | none => none
            | some (p, r) => loopR f (out ++ [{ p with near := near }]) r).bind finish = _
        rw [if_neg hn0]
        show (match partR r' with
            | none => none
            | some (p, r) => loopR f (out ++ [{ p with near := near }]) r).bind finish = _
        have hgr : Good r' := fun y hy => hg y (by rw [hp]; simp [hy])
        have hntr : NT r' := by rw [hp] at hnt; exact hnt.suffix
        rcases hrest with rfl | ⟨y, u, ey, hy⟩
        · have hpn : partR [] = none := rfl
          rw [hpn]
          rcases hsf with ⟨_, _, hall⟩ | ⟨_, er⟩
          · exfalso
            have hne : (x :: t).getLast? ≠ none := by simp
            cases hlast : (x :: t).getLast? with
            | none => exact hne hlast
            | some z =>
              have h1 := hnt z hlast
              have h2 := hall rfl z (List.mem_of_getLast? hlast)
              rw [h1] at h2; cases h2
          · rw [er]
            exact (finish_bad (p := part10 true []) (by simp [tailP, rowsT, splitT, runs, rowP]) (bad_nil true)).symm
        · obtain ⟨q, rest, eq, hq, hnq, hsr2⟩ := piece_split r' y u ey hy
          subst eq
          have hgrest : Good rest := fun z hz => hgr z (by simp [hz])
          obtain ⟨row, rows, e1, e2⟩ := rows_piece q rest hq hgr hnq hsr2
          have hlen : rest.length < f := by
            have h1 : (x :: t).length = p.length + (q.length + rest.length) := by rw [hp]; simp
            have h2 : 0 < q.length := List.length_pos_iff.2 hq
            omega
          have htail : tailP (rowsT (x :: t)) = part10 near q :: tailP (rowsT rest) := by
            rcases hsf with ⟨rfl, er, _⟩ | ⟨rfl, er⟩
            · rw [er, e2, e1]; rfl
            · rw [er, e2, e1]; rfl
          rw [htail]
          exact loop_piece f out near q rest hq hnq hsr2 hgr _ (fun p' => loop_is f _ rest (by simp) hlen hgrest hntr.suffix hsr2)

theorem partR_gt {x : Tok} {t : List Tok} (hx : sepT x = true) : partR (x :: t) = none := by
  have hk := (sep_not hx).1
  have e1 : tagOf (x :: t) = [] := by
    show (if x.k = 1 then x.t else []) = []
    rw [if_neg hk]
  have e2 : restOf (x :: t) = x :: t := by
    show (if x.k = 1 then t else x :: t) = x :: t
    rw [if_neg hk]
  unfold partR
  rw [e1, e2, marks_sep (Or.inr ⟨x, t, rfl, hx⟩)]
  show (if (x :: t).length = (x :: t).length then none else _) = none
  rw [if_pos rfl]

theorem start_is (f : Nat) (l : List Tok) (hl : l.length < f + 1) (hg : Good l) (hnt : NT l) (hh : ∀ x, l.head? = some x → isSp x = false) : (loopR (f + 1) [] l).bind finish = finish (startP (rowsT l)) := by
  cases l with
  | nil => exact (finish_bad (p := part10 false []) (by simp [startP, rowsT, splitT, runs, rowP]) (bad_nil false)).symm
  | cons x t =>
    rw [loop_cons]
    show (match partR (x :: t) with
          | none => none
          | some (p, r) => loopR f ([] ++ [{ p with near := false }]) r).bind finish = _
    cases hx : sepT x
    · obtain ⟨q, rest, eq, hq, hnq, hsr2⟩ := piece_split (x :: t) x t rfl hx
      rw [eq] at hg hnt hl ⊢
      obtain ⟨row, rows, e1, e2⟩ := rows_piece q rest hq hg hnq hsr2
      have hlen : rest.length < f := by
        have h2 : 0 < q.length := List.length_pos_iff.2 hq
        rw [List.length_append] at hl
        omega
      have hst : startP (rowsT (q ++ rest)) = part10 false q :: tailP (rowsT rest) := by
        rw [e2, e1]; rfl
      rw [hst]
      exact loop_piece f [] false q rest hq hnq hsr2 hg _ (fun p' => loop_is f _ rest (by simp) hlen (fun z hz => hg z (by simp [hz])) hnt.suffix hsr2)
    · rw [partR_gt hx]
      have hsx : isSp x = false := hh x rfl
      have hgx : x.same gtT = true := by
        rw [show x.same gtT = signIs x 62 from sign_same (hg x (by simp)) 62]
        unfold sepT at hx
        rw [hsx] at hx
        exact hx
      rw [rows_gt hgx]
      exact (finish_bad (p := part10 false []) (by simp [startP, rowP_nil]) (bad_nil false)).symm

theorem sq_head : ∀ (ts : List Tok) (x : Tok), (sqP true ts).head? = some x → isSp x = false
  | [], x, h => by unfold sqP at h; cases h
  | y :: r, x, h => by
    unfold sqP at h
    split at h
    · exact sq_head r x h
    · next hc =>
      injection h with h
      subst h
      cases hs : isSp y
      · rfl
      · exact absurd ⟨hs, Or.inl rfl⟩ hc

/-! ### Lists with a token that is not right -/

theorem bad_row {ts : List Tok} (h : ts.all tokP = false) : ∃ p ∈ guess ts, partOk p = false := by
  have : ∃ x ∈ ts, tokP x = false := by
    rw [List.all_eq_false] at h
    obtain ⟨x, hx, h⟩ := h
    exact ⟨x, hx, by simpa using h⟩
  obtain ⟨x, hx, hp⟩ := this
  have hxg : x.same gtT = false := by
    cases h : x.same gtT
    · rfl
    · rw [Tok.same_iff] at h
      subst h
      exact absurd hp (by decide)
  obtain ⟨row, hrow, hxr⟩ := split_has hx hxg
  have hsq : squeezedP row = [] := by
    unfold squeezedP
    rw [if_neg]
    intro hall
    have := List.all_eq_true.1 hall x hxr
    rw [hp] at this; cases this
  have hparts : ∀ n, rowParts n row = [part10 n []] := fun n => by
    unfold rowParts
    rw [hsq]
    rfl
  unfold guess
  obtain ⟨q, qs, e⟩ := split_form gtT ts
  rw [e] at hrow ⊢
  rcases List.mem_cons.1 hrow with rfl | hrow
  · exact ⟨part10 false [], by show _ ∈ rowParts false row ++ _; rw [hparts]; simp, bad_nil false⟩
  · exact ⟨part10 true [], List.mem_append_right _ (List.mem_flatMap.2 ⟨row, hrow, by rw [hparts]; simp⟩), bad_nil true⟩

theorem marksP_has : ∀ (p : Pt) (q : List Tok) (p' : Pt), marksP p q = some p' → (∀ x ∈ q, x.t.length ≤ 1 ∨ x.t = p'.id ∨ x.t ∈ p'.bs) ∧ (p.id ≠ [] → p'.id = p.id) ∧ (∀ s ∈ p.bs, s ∈ p'.bs) ∧ p'.tag = p.tag
  | p, [], p', h => by
    injection h with h; subst h
    exact ⟨fun x hx => (by cases hx), fun _ => rfl, fun s hs => hs, rfl⟩
  | p, [a], p', h => by cases h
  | p, a :: b :: r, p', h => by
    have h' : (match withMark p [a, b] with
      | some q => marksP q r
      | none => none) = some p' := h
    rw [withMark_two] at h'
    by_cases hb : b.k = 1
    · rw [if_pos hb] at h'
      cases h61 : a.same eqT
      · rw [h61, if_neg (by decide)] at h'
        cases h46 : a.same dotT
        · rw [h46, if_neg (by decide)] at h'; cases h'
        · rw [h46, if_pos rfl] at h'
          obtain ⟨i1, i2, i3, i4⟩ := marksP_has { p with bs := p.bs ++ [b.t] } r p' h'
          have ea := Tok.same_iff.1 h46
          refine ⟨fun x hx => ?_, i2, fun s hs => i3 s (by simp [hs]), i4⟩
          rcases List.mem_cons.1 hx with rfl | hx
          · rw [ea]; exact Or.inl (by decide)
          · rcases List.mem_cons.1 hx with rfl | hx
            · exact Or.inr (Or.inr (i3 x.t (by simp)))
            · exact i1 x hx
      · rw [h61, if_pos rfl] at h'
        by_cases hi : p.id = []
        · rw [if_pos hi] at h'
          obtain ⟨i1, i2, i3, i4⟩ := marksP_has { p with id := b.t } r p' h'
          have ea := Tok.same_iff.1 h61
          refine ⟨fun x hx => ?_, fun hne => absurd hi hne, i3, i4⟩
          rcases List.mem_cons.1 hx with rfl | hx
          · rw [ea]; exact Or.inl (by decide)
          · rcases List.mem_cons.1 hx with rfl | hx
            · by_cases hbt : x.t = []
              · rw [hbt]; exact Or.inl (by decide)
              · exact Or.inr (Or.inl (i2 hbt).symm)
            · exact i1 x hx
        · rw [if_neg hi] at h'; cases h'
    · rw [if_neg hb] at h'; cases h'

theorem name_short {s : List UInt8} (h : (s.isEmpty || isName s 8) = true) : s.length ≤ 8 := by
  rw [Bool.or_eq_true] at h
  rcases h with h | h
  · rw [List.isEmpty_iff.1 h]; decide
  · unfold isName at h
    simp only [Bool.and_eq_true, decide_eq_true_eq] at h
    exact h.1.2

/-- The tokens of a right part are short. -/
theorem part_short {n : Bool} {q : List Tok} (h : partOk (part10 n q) = true) : ∀ x ∈ q, x.t.length ≤ 8 := by
  intro x hx
  have hq : q ≠ [] := by intro e; rw [e] at hx; cases hx
  unfold part10 readP at h
  cases hm : marksP ⟨tagOf q, [], [], false⟩ (restOf q) with
  | none =>
    rw [hm] at h
    have := empty_bad n
    rw [show ({ Pt.zero with near := n } : Pt) = ⟨[], [], [], n⟩ from rfl] at h
    rw [this] at h; cases h
  | some p' =>
    rw [hm] at h
    obtain ⟨i1, i2, i3, i4⟩ := marksP_has _ _ _ hm
    unfold partOk badgesOk norm at h
    simp only [Bool.and_eq_true] at h
    obtain ⟨⟨⟨ht, hid⟩, ⟨⟨hbs, _⟩, _⟩⟩, _⟩ := h
    have hrest : ∀ y ∈ restOf q, y.t.length ≤ 8 := fun y hy => by
      rcases i1 y hy with h0 | h0 | h0
      · omega
      · rw [h0]; exact name_short hid
      · have := List.all_eq_true.1 hbs y.t (rising_mem.2 h0)
        exact name_short (by rw [Bool.or_eq_true]; exact Or.inr this)
    cases q with
    | nil => cases hx
    | cons a r =>
      by_cases hk : a.k = 1
      · have e1 : tagOf (a :: r) = a.t := by show (if a.k = 1 then a.t else []) = _; rw [if_pos hk]
        have e2 : restOf (a :: r) = r := by show (if a.k = 1 then r else a :: r) = _; rw [if_pos hk]
        rw [e2] at hrest
        rcases List.mem_cons.1 hx with rfl | hx
        · have h0 : p'.tag = x.t := by rw [i4]; exact e1
          rw [← h0]; exact name_short ht
        · exact hrest x hx
      · have e2 : restOf (a :: r) = a :: r := by show (if a.k = 1 then r else a :: r) = _; rw [if_neg hk]
        rw [e2] at hrest
        exact hrest x hx

theorem sqP_has {x : Tok} (hs : isSp x = false) : ∀ (f : Bool) (ts : List Tok), x ∈ ts → x ∈ sqP f ts
  | _, [], h => absurd h (by simp)
  | f, y :: r, h => by
    unfold sqP
    split
    · next hy =>
      rcases List.mem_cons.1 h with rfl | h
      · rw [hs] at hy; cases hy.1
      · exact sqP_has hs f r h
    · rcases List.mem_cons.1 h with rfl | h
      · simp
      · simp [sqP_has hs false r h]

/-- Where all parts are right all tokens are, and none is long. -/
theorem guess_short {ts : List Tok} (hg : Good ts) (h : ∀ p ∈ guess ts, partOk p = true) : ∀ x ∈ ts, x.t.length ≤ 8 := by
  intro x hx
  cases hs : isSp x
  · cases hxg : x.same gtT
    · obtain ⟨row, hrow, hxr⟩ := split_has hx hxg
      have hgr : Good row := fun y hy => hg y (split_mem hrow y hy)
      have hxs : x.same spT = false := by rw [sp_same (hg x hx)]; exact hs
      obtain ⟨q, hq, hxq⟩ := split_has (t := spT) (ts := squeezedP row) (x := x) (by rw [squeezedP_good hgr]; exact sqP_has hs true row hxr) hxs
      have hpart : ∀ n, ∃ n', part10 n' q ∈ rowParts n row := fun n => by
        unfold rowParts
        obtain ⟨u, us, e⟩ := split_form spT (squeezedP row)
        rw [e] at hq ⊢
        rcases List.mem_cons.1 hq with rfl | hq
        · exact ⟨n, by simp⟩
        · exact ⟨false, List.mem_cons_of_mem _ (List.mem_map.2 ⟨q, hq, rfl⟩)⟩
      have hin : ∃ n', part10 n' q ∈ guess ts := by
        unfold guess
        obtain ⟨u, us, e⟩ := split_form gtT ts
        rw [e] at hrow ⊢
        rcases List.mem_cons.1 hrow with rfl | hrow
        · obtain ⟨n', hn'⟩ := hpart false
          exact ⟨n', List.mem_append_left _ hn'⟩
        · obtain ⟨n', hn'⟩ := hpart true
          exact ⟨n', List.mem_append_right _ (List.mem_flatMap.2 ⟨row, hrow, hn'⟩)⟩
      obtain ⟨n', hn'⟩ := hin
      exact part_short (h _ hn') x hxq
    · rw [Tok.same_iff] at hxg
      rw [hxg]; decide
  · have : x.same spT = true := by rw [sp_same (hg x hx)]; exact hs
    rw [Tok.same_iff] at this
    rw [this]; decide

theorem tokP_short {x : Tok} (h : tokP x = true) (hl : x.t.length ≤ 4000) : tokOk x = true := by
  rw [← tokP_sm hl]; exact h

/-- What the program reads is what the reference reads: at every list of tokens. -/
theorem readPick_is (ts : List Tok) : readPick ts = finish (guess ts) := by
  unfold readPick
  by_cases hall : ts.all tokOk = true
  · have hg : Good ts := fun x hx => ok_P (List.all_eq_true.1 hall x hx)
    rw [if_pos hall, ← squeeze_is hall, guess_is hg, ← rows_sq true ts hg]
    have hnt : NT (sqP true ts) := by rw [squeeze_is hall]; exact squeeze_last ts
    exact start_is ts.length (sqP true ts) (by have := sqP_len true ts; omega) (fun x hx => hg x (sqP_mem _ _ hx)) hnt (sq_head ts)
  · rw [if_neg hall]
    by_cases hp : ts.all tokP = true
    · have hg : Good ts := List.all_eq_true.1 hp
      unfold finish
      rw [if_neg]
      intro hk
      unfold pickOk at hk
      simp only [Bool.and_eq_true] at hk
      refine hall (List.all_eq_true.2 fun x hx => tokP_short (hg x hx) ?_)
      have := guess_short hg (List.all_eq_true.1 hk.1.1.1) x hx
      omega
    · obtain ⟨p, hp, hb⟩ := bad_row (by simpa using hp)
      exact (finish_bad hp hb).symm

end Go.Proofs.YtgaggpnlimchkaaGreatDoor.P10
