/- Plain functions of chapter 9: how the program reads a piece, cut at the first ':' and '!'; and that it is what Plain9 says. -/
import Derived.Test.YtgaggpnlimchkaaGreatDoorPlain
import Derived.Test.YtgaggpnlimchkaaGreatDoorPlain6p
namespace Go.Proofs.YtgaggpnlimchkaaGreatDoor.P9
open Go.Proofs.YtgaggpnlimchkaaGreatDoor.P1 Go.Proofs.YtgaggpnlimchkaaGreatDoor.T1 Go.Proofs.YtgaggpnlimchkaaGreatDoor.P5 Go.Proofs.YtgaggpnlimchkaaGreatDoor.P6 Go.Proofs.YtgaggpnlimchkaaGreatDoor.P8 Go.Proofs.YtgaggpnlimchkaaGreatDoor.B5 Go.Lib

theorem tok_zero {x : Tok} (h : tokOk x = true) (hk : x.k = 1 ∨ x.k = 6) : x.n = 0 := by
  have e := tokP_self (ok_P h)
  rw [← e] at hk ⊢
  revert hk
  unfold nextTok
  repeat' split
  all_goals simp

/-- The place of the first token that is this one. -/
def placeT (t : Tok) (ts : List Tok) : Option Nat := ts.findIdx? (fun x => x.same t)

/-- What stands ahead of the first such sign and what behind it. -/
def cutT (c : UInt8) (ts : List Tok) : Option (List Tok × List Tok) := match placeT ⟨6, [c], 0⟩ ts with
  | none => none
  | some i => some (ts.take i, ts.drop (i + 1))

theorem cutT_cons (c : UInt8) (x : Tok) (r : List Tok) : cutT c (x :: r) = if x.same ⟨6, [c], 0⟩ = true then some ([], r) else (cutT c r).map fun q => (x :: q.1, q.2) := by
  unfold cutT placeT
  rw [List.findIdx?_cons]
  cases h : x.same ⟨6, [c], 0⟩
  · simp only [Bool.false_eq_true, if_false]
    cases r.findIdx? (fun x => x.same ⟨6, [c], 0⟩) with
    | none => rfl
    | some i => rfl
  · rfl

theorem same_sign {x : Tok} (h : tokOk x = true) (c : UInt8) : x.same ⟨6, [c], 0⟩ = signIs x c := by
  unfold signIs
  rw [Bool.eq_iff_iff, Tok.same_iff]
  obtain ⟨k, t, n⟩ := x
  simp only [Tok.mk.injEq, Bool.and_eq_true, beq_iff_eq]
  constructor
  · rintro ⟨rfl, rfl, _⟩; exact ⟨rfl, rfl⟩
  · rintro ⟨rfl, rfl⟩; exact ⟨rfl, rfl, tok_zero h (Or.inr rfl)⟩

theorem cutT_none {c : UInt8} {ts : List Tok} (h : cutT c ts = none) (hok : ∀ x ∈ ts, tokOk x = true) : ∀ x ∈ ts, signIs x c = false := by
  intro x hx
  have hp : placeT ⟨6, [c], 0⟩ ts = none := by
    unfold cutT at h
    split at h
    · assumption
    · cases h
  unfold placeT at hp
  rw [List.findIdx?_eq_none_iff] at hp
  have := hp x hx
  rw [← same_sign (hok x hx)]
  simpa using this

theorem cutT_some {c : UInt8} {ts p q : List Tok} (h : cutT c ts = some (p, q)) (hok : ∀ x ∈ ts, tokOk x = true) : ∃ x, ts = p ++ x :: q ∧ signIs x c = true ∧ ∀ y ∈ p, signIs y c = false := by
  induction ts generalizing p with
  | nil => cases h
  | cons x r ih =>
    rw [cutT_cons, same_sign (hok x (by simp))] at h
    cases hx : signIs x c
    · rw [hx] at h
      simp only [Bool.false_eq_true, if_false] at h
      cases hr : cutT c r with
      | none => rw [hr] at h; cases h
      | some pq =>
        rw [hr] at h
        obtain ⟨p', q'⟩ := pq
        simp only [Option.map_some, Option.some.injEq, Prod.mk.injEq] at h
        obtain ⟨rfl, rfl⟩ := h
        obtain ⟨y, e, hy, hp⟩ := ih hr (fun z hz => hok z (by simp [hz]))
        exact ⟨y, by rw [e]; rfl, hy, fun z hz => by
          rcases List.mem_cons.1 hz with rfl | hz
          · exact hx
          · exact hp z hz⟩
    · rw [hx] at h
      simp only [if_true, Option.some.injEq, Prod.mk.injEq] at h
      obtain ⟨rfl, rfl⟩ := h
      exact ⟨x, rfl, hx, fun z hz => by cases hz⟩

/-- What the program makes of a '!'. -/
def bangP (ts : List Tok) : Option (List Tok × Bool) := match cutT 33 ts with
  | none => some (ts, false)
  | some (p, m) => match m with
    | [y] => if y.k = 1 ∧ y.t = strongN ∧ y.n = 0 then some (p, true) else none
    | _ => none

theorem bangP_is : ∀ (ts : List Tok), (∀ x ∈ ts, tokOk x = true) → bangP ts = bang ts
  | [], _ => rfl
  | x :: r, hok => by
    have ih := bangP_is r (fun z hz => hok z (by simp [hz]))
    unfold bangP at ih ⊢
    rw [cutT_cons, same_sign (hok x (by simp))]
    unfold bang
    cases hx : signIs x 33
    · simp only [Bool.false_eq_true, if_false]
      rw [← ih]
      cases hr : cutT 33 r with
      | none => rfl
      | some pq =>
        obtain ⟨p, q⟩ := pq
        simp only [Option.map_some]
        match q with
        | [] => rfl
        | [y] =>
          dsimp only
          split <;> rfl
        | y :: z :: t => rfl
    · simp only [if_true]
      match r, hok with
      | [], _ => rfl
      | [y], hok =>
        have hy := hok y (by simp)
        dsimp only
        by_cases h1 : y.k = 1 ∧ y.t = strongN
        · rw [if_pos ⟨h1.1, h1.2, tok_zero hy (Or.inl h1.1)⟩, if_pos h1]
        · rw [if_neg (fun h => h1 ⟨h.1, h.2.1⟩), if_neg h1]
      | y :: z :: q, _ => rfl

/-- The look whose name stands ahead of the ':'. -/
def headP (hd : List Tok) : Option (List UInt8) := match squeeze hd with
  | [a] => if a.k = 1 then some a.t else none
  | _ => none

/-- The note of a squeezed piece, as the program reads it. -/
def noteInP (q : List Tok) : Option No := match cutT 58 q with
  | none => none
  | some (hd, body) => match bangP body with
    | none => none
    | some (vb, s) => match headP hd with
      | none => none
      | some nm => match readToks vb with
        | none => none
        | some v => if fits (lookOf nm) v = true then some ⟨lookOf nm, v, s⟩ else none

theorem words_len {ts : List Tok} : (words ts).length ≤ ts.length := List.length_filter_le _ _

theorem squeeze_words {x : Tok} {ts : List Tok} (h : squeeze ts = [x]) : words ts = words [x] := by rw [← words_squeeze, h]

theorem headP_name {a : Tok} (hk : a.k = 1) : headP [a] = some a.t := by
  have : P5.isSp a = false := by unfold P5.isSp; simp; omega
  have e : squeeze [a] = [a] := by simp [squeeze, sqF, trimEnd, this]
  unfold headP
  rw [e]
  simp [hk]

theorem headP_space {a b : Tok} (hk : a.k = 1) (hb : P5.isSp b = true) : headP [a, b] = some a.t := by
  have : P5.isSp a = false := by unfold P5.isSp; simp; omega
  have e : squeeze [a, b] = [a] := by simp [squeeze, sqF, trimEnd, this, hb]
  unfold headP
  rw [e]
  simp [hk]

theorem headP_long {hd : List Tok} (h : 2 ≤ (words hd).length) : headP hd = none := by
  unfold headP
  split
  · next a e =>
    have := words_len (ts := [a])
    rw [squeeze_words e] at h
    simp at this
    omega
  · rfl

theorem headP_other {a : Tok} {r : List Tok} (hs : P5.isSp a = false) (hk : a.k ≠ 1) : headP (a :: r) = none := by
  unfold headP
  split
  · next x e =>
    have e2 := squeeze_words e
    have : words (a :: r) = a :: words r := by simp [words, hs]
    rw [this] at e2
    cases hx : P5.isSp x
    · have : words [x] = [x] := by simp [words, hx]
      rw [this] at e2
      obtain rfl : a = x := by injection e2
      rw [if_neg hk]
    · have : words [x] = [] := by simp [words, hx]
      rw [this] at e2
      cases e2
  · rfl

theorem words_cons {a : Tok} {r : List Tok} (hs : P5.isSp a = false) : words (a :: r) = a :: words r := by simp [words, hs]

theorem noteOf_is (a : Tok) (q : List Tok) (hok : ∀ x ∈ q, tokOk x = true) : (match bangP q with
    | none => none
    | some (vb, s) => match some a.t with
      | none => none
      | some nm => match readToks vb with
        | none => none
        | some v => if fits (lookOf nm) v = true then some (⟨lookOf nm, v, s⟩ : No) else none) = noteOf a q := by
  rw [bangP_is q hok]
  unfold noteOf
  cases bang q with
  | none => rfl
  | some ps =>
    obtain ⟨p, s⟩ := ps
    rfl

theorem noteInP_none {q : List Tok} (h : ∀ hd body, cutT 58 q = some (hd, body) → headP hd = none) : noteInP q = none := by
  unfold noteInP
  cases hc : cutT 58 q with
  | none => rfl
  | some hb =>
    obtain ⟨hd, body⟩ := hb
    simp only
    rw [h hd body hc]
    cases bangP body with
    | none => rfl
    | some vs => rfl

theorem apart_ab {f : Bool} {a b c : Tok} {r : List Tok} (ha : P5.isSp a = false) (h : apart f (a :: b :: c :: r) = true) : ¬ (P5.isSp b = true ∧ P5.isSp c = true) := by
  intro ⟨hb, hc⟩
  simp [apart, ha, hb, hc] at h

/-- The note of a squeezed piece. -/
def pieceQ (q : List Tok) : Option No := match q with
  | a :: b :: r => if a.k = 1 then afterName a (if b.k = 5 then r else b :: r) else none
  | _ => none

theorem piece_q (ts : List Tok) : piece ts = pieceQ (squeeze ts) := by
  unfold piece pieceQ
  cases squeeze ts with
  | nil => rfl
  | cons a t => cases t with
    | nil => rfl
    | cons b r => rfl

theorem piece_eq (q : List Tok) (hq : squeeze q = q) (hok : ∀ x ∈ q, tokOk x = true) : noteInP q = pieceQ q := by
  unfold pieceQ
  match q, hq, hok with
  | [], _, _ => rfl
  | [a], _, hok =>
    refine noteInP_none fun hd body h => ?_
    obtain ⟨x, e, hx, _⟩ := cutT_some h hok
    have : hd = [] := by
      cases hd with
      | nil => rfl
      | cons y t => simp at e
    subst this
    rfl
  | a :: b :: r, hq, hok =>
    have hap := squeeze_apart (a :: b :: r)
    rw [hq] at hap
    have hsa : P5.isSp a = false := by
      cases h : P5.isSp a
      · rfl
      · simp [apart, h] at hap
    simp only
    by_cases hk : a.k = 1
    · rw [if_pos hk]
      have ha58 : signIs a 58 = false := by unfold signIs; rw [hk]; rfl
      have c1 := cutT_cons 58 a (b :: r)
      rw [same_sign (hok a (by simp)), ha58] at c1
      simp only [Bool.false_eq_true, if_false] at c1
      by_cases hb5 : b.k = 5
      · rw [if_pos hb5]
        have hsb : P5.isSp b = true := by unfold P5.isSp; rw [hb5]; rfl
        have hb58 : signIs b 58 = false := by unfold signIs; rw [hb5]; rfl
        have c2 := cutT_cons 58 b r
        rw [same_sign (hok b (by simp)), hb58] at c2
        simp only [Bool.false_eq_true, if_false] at c2
        cases r with
        | nil =>
          refine noteInP_none fun hd body h => ?_
          rw [c1, c2] at h
          cases h
        | cons c q =>
          rw [afterName_cons]
          have c3 := cutT_cons 58 c q
          rw [same_sign (hok c (by simp))] at c3
          cases hc : signIs c 58
          · rw [if_neg (by simp)]
            have hsc : P5.isSp c = false := by
              cases h : P5.isSp c
              · rfl
              · exact absurd ⟨hsb, h⟩ (apart_ab hsa hap)
            refine noteInP_none fun hd body h => ?_
            rw [hc] at c3
            simp only [Bool.false_eq_true, if_false] at c3
            rw [c1, c2, c3] at h
            cases hq' : cutT 58 q with
            | none => rw [hq'] at h; cases h
            | some pq =>
              rw [hq'] at h
              simp only [Option.map_some, Option.some.injEq, Prod.mk.injEq] at h
              rw [← h.1]
              refine headP_long ?_
              rw [words_cons hsa]
              simp [words, hsb, hsc]
          · rw [if_pos rfl]
            rw [hc] at c3
            simp only [if_true] at c3
            rw [← noteOf_is a q (fun x hx => hok x (by simp [hx]))]
            unfold noteInP
            rw [c1, c2, c3]
            simp only [Option.map_some]
            rw [headP_space hk hsb]
      · rw [if_neg hb5, afterName_cons]
        have hsb : P5.isSp b = false := by unfold P5.isSp; simpa using hb5
        have c2 := cutT_cons 58 b r
        rw [same_sign (hok b (by simp))] at c2
        cases hb : signIs b 58
        · rw [if_neg (by simp)]
          refine noteInP_none fun hd body h => ?_
          rw [hb] at c2
          simp only [Bool.false_eq_true, if_false] at c2
          rw [c1, c2] at h
          cases hq' : cutT 58 r with
          | none => rw [hq'] at h; cases h
          | some pq =>
            rw [hq'] at h
            simp only [Option.map_some, Option.some.injEq, Prod.mk.injEq] at h
            rw [← h.1]
            refine headP_long ?_
            rw [words_cons hsa, words_cons hsb]
            simp
        · rw [if_pos rfl]
          rw [hb] at c2
          simp only [if_true] at c2
          rw [← noteOf_is a r (fun x hx => hok x (by simp [hx]))]
          unfold noteInP
          rw [c1, c2]
          simp only [Option.map_some]
          rw [headP_name hk]
    · rw [if_neg hk]
      refine noteInP_none fun hd body h => ?_
      obtain ⟨x, e, hx, _⟩ := cutT_some h hok
      cases hd with
      | nil => rfl
      | cons y t =>
        obtain rfl : a = y := by simp at e; exact e.1
        exact headP_other hsa hk

/-- What the program reads of a piece is what Plain9 says. -/
theorem piece_is {ts : List Tok} (hok : ∀ x ∈ ts, tokOk x = true) (hm : ∀ x ∈ squeeze ts, x ∈ ts) : noteInP (squeeze ts) = piece ts := by
  rw [piece_eq (squeeze ts) (squeeze_again ts) (fun x hx => hok x (hm x hx)), piece_q]

theorem read9_step {ts p q : List Tok} (h : cutT 59 ts = some (p, q)) (hok : ∀ x ∈ ts, tokOk x = true) : read9 ts = (match piece p with | none => [] | some n => [n]) ++ read9 q := by
  obtain ⟨x, e, hx, hp⟩ := cutT_some h hok
  rw [e, read9_cut hx]
  congr 1
  unfold read9
  rw [pieces_whole hp]
  simp only [List.filterMap_cons, List.filterMap_nil]
  cases piece p <;> rfl

theorem read9_last {ts : List Tok} (h : cutT 59 ts = none) (hok : ∀ x ∈ ts, tokOk x = true) : read9 ts = (match piece ts with | none => [] | some n => [n]) := by
  unfold read9
  rw [pieces_whole (cutT_none h hok)]
  simp only [List.filterMap_cons, List.filterMap_nil]
  cases piece ts <;> rfl

end Go.Proofs.YtgaggpnlimchkaaGreatDoor.P9
