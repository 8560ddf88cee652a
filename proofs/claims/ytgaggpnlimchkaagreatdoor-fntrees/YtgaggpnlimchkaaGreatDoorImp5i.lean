/- A strings.Builder of the call's own, at this program: written (WriteString, copyCheck: the kit's shelf lays reading alone here), and read (String). Contracts of chapter 5's functions (tokens): the program's TextOf. Contracts of chapter 5's functions (tokens): the program's Squeezed. Chapter 5 (tokens): the contracts for whatever slice of tokens, nil too; plain facts that the laws ask. -/
import Derived.Test.YtgaggpnlimchkaaGreatDoorFound
import Derived.Test.YtgaggpnlimchkaaGreatDoorShelf
import Derived.Test.YtgaggpnlimchkaaGreatDoorImp5f
import Derived.Test.YtgaggpnlimchkaaGreatDoorBase5h
import Derived.Test.YtgaggpnlimchkaaGreatDoorBase5n
import Derived.Test.YtgaggpnlimchkaaGreatDoorDraw5
namespace Go.Proofs.YtgaggpnlimchkaaGreatDoor.BL
open Go.Proofs.YtgaggpnlimchkaaGreatDoor.BT Go.Proofs.YtgaggpnlimchkaaGreatDoor.B2
open Go.RowKit
set_option linter.unusedVariables false

theorem byteInfo : (Tryz.prog.info? 5).map (fun i => (i.zero, i.size, i.bytes)) = some (some (.int .u8 0), 1, 1) := by kernel_rfl

theorem at_below {w w' : World} {T e : TypeId} {B b : Nat} {p : Value} {bs : List Value} (h : Lib.BuilderAt T e B b p bs w) (hb : Below w.heap.size w w') : Lib.BuilderAt T e B b p bs w' := by
  have hlt := h.lt
  obtain ⟨h0, v, h1, h2, h3⟩ := h
  exact ⟨h0, v, (hb.block b hlt).trans h1, own_below h2 hb, h3⟩

end Go.Proofs.YtgaggpnlimchkaaGreatDoor.BL

namespace Go.Proofs.YtgaggpnlimchkaaGreatDoor.B5
open Go.Proofs.YtgaggpnlimchkaaGreatDoor.P1 Go.Proofs.YtgaggpnlimchkaaGreatDoor.B1 Go.Proofs.YtgaggpnlimchkaaGreatDoor.B2 Go.Proofs.YtgaggpnlimchkaaGreatDoor.T1 Go.Proofs.YtgaggpnlimchkaaGreatDoor.BT Go.Proofs.YtgaggpnlimchkaaGreatDoor.P5 Go.Proofs.YtgaggpnlimchkaaGreatDoor.D1 Go.Proofs.YtgaggpnlimchkaaGreatDoor.BL
open Go.ChangeShapes Go.WideShapes Go.ChangeAt Go.RowKit
set_option linter.unusedVariables false

end Go.Proofs.YtgaggpnlimchkaaGreatDoor.B5

namespace Go.Proofs.YtgaggpnlimchkaaGreatDoor.B5
open Go.Proofs.YtgaggpnlimchkaaGreatDoor.P1 Go.Proofs.YtgaggpnlimchkaaGreatDoor.B1 Go.Proofs.YtgaggpnlimchkaaGreatDoor.B2 Go.Proofs.YtgaggpnlimchkaaGreatDoor.T1 Go.Proofs.YtgaggpnlimchkaaGreatDoor.BT Go.Proofs.YtgaggpnlimchkaaGreatDoor.P5 Go.Proofs.YtgaggpnlimchkaaGreatDoor.D1
open Go.ChangeShapes Go.WideShapes Go.ChangeAt Go.RowKit
set_option linter.unusedVariables false

/-- Does nothing more come, or a space? -/
def spNext (ts : List Tok) : Bool := match ts with
  | [] => true
  | x :: _ => isSp x

/-- Of several spaces the last one is kept; the flag: nothing is kept yet. -/
def sqP : Bool → List Tok → List Tok
  | _, [] => []
  | f, x :: r => if isSp x = true ∧ (f = true ∨ spNext r = true) then sqP f r else x :: sqP false r

theorem trim_cons {x : Tok} {l : List Tok} (h : l ≠ [] ∨ isSp x = false) : trimEnd (x :: l) = x :: trimEnd l := by
  cases l with
  | nil =>
    rcases h with h | h
    · exact absurd rfl h
    · unfold trimEnd; simp [h]
  | cons y r =>
    unfold trimEnd
    rw [List.getLast?_cons_cons]
    cases e : (y :: r).getLast? with
    | none => simp at e
    | some z =>
      dsimp only
      split <;> simp

/-- Where all spaces are alike, it is the same which one of several is kept. -/
theorem sqP_is (ts : List Tok) (h : ∀ x ∈ ts, isSp x = true → x = ⟨5, [], 0⟩) : sqP false ts = trimEnd (sqF false ts) ∧ sqP true ts = trimEnd (sqF true ts) := by
  induction ts with
  | nil => exact ⟨rfl, rfl⟩
  | cons x r ih =>
    have ih := ih (fun y hy => h y (by simp [hy]))
    cases hx : isSp x
    · have e1 : ∀ f, sqP f (x :: r) = x :: sqP false r := fun f => by rw [sqP, if_neg (by simp [hx])]
      have e2 : ∀ f, sqF f (x :: r) = x :: sqF false r := fun f => by rw [sqF, if_neg (by simp [hx])]
      rw [e1, e1, e2, e2, trim_cons (Or.inr hx), ih.1]
      exact ⟨rfl, rfl⟩
    · have ex := h x (by simp) hx
      have e2 : sqF true (x :: r) = sqF true r := by rw [sqF, if_pos hx, if_pos rfl]
      have e3 : sqF false (x :: r) = x :: sqF true r := by rw [sqF, if_pos hx, if_neg (by simp)]
      have e4 : sqP true (x :: r) = sqP true r := by rw [sqP, if_pos ⟨hx, Or.inl rfl⟩]
      refine ⟨?_, by rw [e4, e2]; exact ih.2⟩
      rw [e3]
      cases r with
      | nil =>
        rw [sqP, if_pos ⟨hx, Or.inr rfl⟩]
        show [] = trimEnd [x]
        unfold trimEnd; simp [hx]
      | cons y q =>
        cases hy : isSp y
        · have e5 : sqP false (x :: y :: q) = x :: sqP false (y :: q) := by rw [sqP, if_neg (by simp [spNext, hy])]
          have e6 : sqF true (y :: q) = sqF false (y :: q) := by rw [sqF, sqF, if_neg (by simp [hy]), if_neg (by simp [hy])]
          rw [e5, ih.1, e6, trim_cons (Or.inl ?_)]
          rw [sqF, if_neg (by simp [hy])]; simp
        · have ey := h y (by simp) hy
          have e5 : sqP false (x :: y :: q) = sqP false (y :: q) := by rw [sqP, if_pos ⟨hx, Or.inr hy⟩]
          have e6 : sqF true (y :: q) = sqF true q := by rw [sqF, if_pos hy, if_pos rfl]
          have e7 : sqF false (y :: q) = y :: sqF true q := by rw [sqF, if_pos hy, if_neg (by simp)]
          rw [e5, ih.1, e6, e7, ex, ey]

theorem sp_is {x : Tok} (h : tokOk x = true) (hs : isSp x = true) : x = ⟨5, [], 0⟩ := by
  have h5 : x.k = 5 := by simpa [isSp] using hs
  have ht : tokText x = [32] := by unfold tokText; rw [if_neg (by omega), if_neg (by omega), if_pos h5]
  unfold tokOk at h
  rw [ht] at h
  simp only [Bool.and_eq_true] at h
  have := Tok.same_iff.1 h.1.2
  rw [← this]
  rfl

theorem squeeze_is {ts : List Tok} (h : ts.all tokOk = true) : sqP true ts = squeeze ts :=
  (sqP_is ts (fun x hx hs => sp_is (List.all_eq_true.1 h x hx) hs)).2

theorem sqP_len : ∀ (f : Bool) (ts : List Tok), (sqP f ts).length ≤ ts.length
  | _, [] => Nat.le_refl _
  | f, x :: r => by
    unfold sqP
    split
    · have := sqP_len f r; simp; omega
    · have := sqP_len false r; simp; omega

theorem drop_tok {ts : List Tok} {i : Nat} {x : Tok} (hx : ts[i]? = some x) : ts.drop i = x :: ts.drop (i + 1) := by
  obtain ⟨hl, e⟩ := List.getElem?_eq_some_iff.1 hx
  rw [List.drop_eq_getElem_cons hl, e]

theorem sp_skip {ts done : List Tok} {i : Nat} {x : Tok} (hx : ts[i]? = some x) (hs : isSp x = true) (hd : done.isEmpty = true ∨ spNext (ts.drop (i + 1)) = true) (I : sqP true ts = done ++ sqP done.isEmpty (ts.drop i)) : sqP true ts = done ++ sqP done.isEmpty (ts.drop (i + 1)) := by
  rw [I, drop_tok hx, sqP, if_pos ⟨hs, hd⟩]

theorem sp_take {ts done : List Tok} {i : Nat} {x : Tok} (hx : ts[i]? = some x) (hs : ¬ (isSp x = true ∧ (done.isEmpty = true ∨ spNext (ts.drop (i + 1)) = true))) (I : sqP true ts = done ++ sqP done.isEmpty (ts.drop i)) : sqP true ts = (done ++ [x]) ++ sqP (done ++ [x]).isEmpty (ts.drop (i + 1)) := by
  have he : (done ++ [x]).isEmpty = false := by cases done <;> rfl
  rw [I, drop_tok hx, sqP, if_neg hs, he]
  simp

theorem spNext_at (ts : List Tok) (j : Nat) : spNext (ts.drop j) = match ts[j]? with
    | none => true
    | some x => isSp x := by
  cases e : ts[j]? with
  | none => rw [List.drop_of_length_le (List.getElem?_eq_none_iff.1 e)]; rfl
  | some x => rw [drop_tok e]; rfl

theorem toks_form {w : World} {v : Value} {B : Nat} {ts : List Tok} (h : Toks w v B ts) : ∃ a c, v = .slice a ts.length c := by
  rcases Toks.row h with ⟨rfl, rfl⟩ | ⟨g, cap, rfl, _⟩
  · exact ⟨_, _, rfl⟩
  · exact ⟨_, _, rfl⟩

/-- What the program keeps of tokens of whatever length. -/
def squeezedP (ts : List Tok) : List Tok := if ts.all tokP = true then sqP true ts else []

theorem squeezedP_sm {ts : List Tok} (hf : ∀ x ∈ ts, TokSm x) : squeezedP ts = squeezed ts := by
  unfold squeezedP squeezed
  rw [all_sm hf]
  cases h : ts.all tokOk
  · rfl
  · rw [if_pos rfl, if_pos rfl, squeeze_is h]

end Go.Proofs.YtgaggpnlimchkaaGreatDoor.B5

namespace Go.Proofs.YtgaggpnlimchkaaGreatDoor.B5
open Go.Proofs.YtgaggpnlimchkaaGreatDoor.P1 Go.Proofs.YtgaggpnlimchkaaGreatDoor.B1 Go.Proofs.YtgaggpnlimchkaaGreatDoor.B2 Go.Proofs.YtgaggpnlimchkaaGreatDoor.T1 Go.Proofs.YtgaggpnlimchkaaGreatDoor.BT Go.Proofs.YtgaggpnlimchkaaGreatDoor.P5 Go.Proofs.YtgaggpnlimchkaaGreatDoor.D1
open Go.ChangeShapes Go.WideShapes Go.ChangeAt Go.RowKit
set_option linter.unusedVariables false

theorem sm_of_d {x : Tok} (h : D5.TokD x) : TokSm x := ⟨by have := h.1; omega, by have := h.2.1; omega, by have := h.2.2; omega⟩

theorem fit_of_sm {x : Tok} (h : TokSm x) : TokFit x := ⟨h.1, h.2.1, by have := h.2.2; omega⟩

theorem mem_sqF : ∀ (f : Bool) (ts : List Tok), ∀ x ∈ sqF f ts, x ∈ ts
  | _, [], x, h => h
  | f, y :: r, x, h => by
    unfold sqF at h
    split at h
    · split at h
      · exact List.mem_cons_of_mem _ (mem_sqF true r x h)
      · rcases List.mem_cons.1 h with h | h
        · exact h ▸ List.mem_cons_self
        · exact List.mem_cons_of_mem _ (mem_sqF true r x h)
    · rcases List.mem_cons.1 h with h | h
      · exact h ▸ List.mem_cons_self
      · exact List.mem_cons_of_mem _ (mem_sqF false r x h)

theorem mem_trim {ts : List Tok} {x : Tok} (h : x ∈ trimEnd ts) : x ∈ ts := by
  rcases trim_cases ts with e | ⟨y, e, _⟩
  · rw [e] at h; exact h
  · rw [e]; exact List.mem_append_left _ h

theorem mem_squeeze {ts : List Tok} {x : Tok} (h : x ∈ squeeze ts) : x ∈ ts := mem_sqF true ts x (mem_trim h)

theorem mem_squeezed {ts : List Tok} {x : Tok} (h : x ∈ squeezed ts) : x ∈ ts := by
  unfold squeezed at h
  split at h
  · exact mem_squeeze h
  · cases h

theorem trim_len (ts : List Tok) : (trimEnd ts).length ≤ ts.length := by
  rcases trim_cases ts with e | ⟨y, e, _⟩
  · rw [e]; exact Nat.le_refl _
  · have := congrArg List.length e
    rw [List.length_append] at this
    omega

theorem squeezed_len (ts : List Tok) : (squeezed ts).length ≤ ts.length := by
  unfold squeezed
  split
  · exact Nat.le_trans (trim_len _) (sqF_len true ts)
  · simp

theorem squeezed_ok {ts : List Tok} (h : ts.all tokOk = true) : squeezed ts = squeeze ts := by unfold squeezed; rw [if_pos h]

theorem squeezed_again {ts : List Tok} (h : ts.all tokOk = true) : squeezed (squeezed ts) = squeezed ts := by
  have h2 : (squeeze ts).all tokOk = true := List.all_eq_true.2 fun x hx => List.all_eq_true.1 h x (mem_squeeze hx)
  rw [squeezed_ok h, squeezed_ok h2, squeeze_again]

theorem words_squeezed {ts : List Tok} (h : ts.all tokOk = true) : words (squeezed ts) = words ts := by rw [squeezed_ok h, words_squeeze]

/-- Where a space stands in a list without two side by side. -/
theorem apart_at : ∀ (f : Bool) (ts : List Tok), apart f ts = true → ∀ i x, ts[i]? = some x → isSp x = true → (i = 0 ∧ f = false) ∨ ∃ j y, i = j + 1 ∧ ts[j]? = some y ∧ isSp y = false
  | _, [], _, i, x, hx, _ => by simp at hx
  | f, y :: r, h, 0, x, hx, hs => by
    have : y = x := by simpa using hx
    subst this
    rw [apart, if_pos hs] at h
    cases f
    · exact Or.inl ⟨rfl, rfl⟩
    · simp at h
  | f, y :: r, h, i + 1, x, hx, hs => by
    rw [apart] at h
    right
    cases hy : isSp y
    · rw [if_neg (by simp [hy])] at h
      rcases apart_at false r h i x (by simpa using hx) hs with ⟨rfl, _⟩ | ⟨j, z, rfl, hz, hzs⟩
      · exact ⟨0, y, rfl, rfl, hy⟩
      · exact ⟨j + 1, z, rfl, by simpa using hz, hzs⟩
    · rw [if_pos hy, Bool.and_eq_true] at h
      rcases apart_at true r h.2 i x (by simpa using hx) hs with ⟨_, h0⟩ | ⟨j, z, rfl, hz, hzs⟩
      · cases h0
      · exact ⟨j + 1, z, rfl, by simpa using hz, hzs⟩

theorem squeezed_space {ts : List Tok} (h : ts.all tokOk = true) {i : Nat} {x : Tok} (hx : (squeezed ts)[i]? = some x) (hs : isSp x = true) :
    (∃ j y, i = j + 1 ∧ (squeezed ts)[j]? = some y ∧ isSp y = false) ∧ i + 1 < (squeezed ts).length := by
  rw [squeezed_ok h] at hx ⊢
  have hl := (List.getElem?_eq_some_iff.1 hx).1
  refine ⟨?_, ?_⟩
  · rcases apart_at true (squeeze ts) (squeeze_apart ts) i x hx hs with ⟨_, h0⟩ | h1
    · cases h0
    · exact h1
  · apply Classical.byContradiction
    intro hn
    have hlast : (squeeze ts).getLast? = some x := by
      rw [List.getLast?_eq_getElem?, show (squeeze ts).length - 1 = i by omega]; exact hx
    have := squeeze_last ts x hlast
    rw [this] at hs; cases hs

theorem words_take {ts : List Tok} {i : Nat} {x : Tok} (h : ts[i]? = some x) : words (ts.take (i + 1)) = words (ts.take i) ++ (if isSp x = true then [] else [x]) := by
  rw [List.take_add_one, h]
  unfold words
  rw [List.filter_append]
  cases hs : isSp x <;> simp [hs]

theorem Toks.on {w w' : World} {v : Value} {B : Nat} {ts : List Tok} (h : Toks w v B ts) (hb : Below w.heap.size w w') : Toks w' v B ts := own_below h hb

theorem own_apart {w w' : World} {v v' : Value} {B : Nat} {ts : List Tok} (h : Toks w v B ts) (hg : w.grownBy w' v'.ownBlock) (hne : v.ownBlock ≠ v'.ownBlock ∨ v.ownBlock = none) : Toks w' v B ts :=
  World.ownsRow.kept h hg (hne.elim (fun x => Or.inr x) (fun x => Or.inl x))

end Go.Proofs.YtgaggpnlimchkaaGreatDoor.B5
