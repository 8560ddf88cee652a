/- Plain facts of chapter 10: a pick that is shown is read again, with spaces around it or not. -/
import Derived.Test.YtliihnkonakacaaGreatDoorPlain10
namespace Go.Proofs.YtliihnkonakacaaGreatDoor.P10
open Go.Proofs.YtliihnkonakacaaGreatDoor.P1 Go.Proofs.YtliihnkonakacaaGreatDoor.T1 Go.Proofs.YtliihnkonakacaaGreatDoor.P5 Go.Proofs.YtliihnkonakacaaGreatDoor.P6 Go.Proofs.YtliihnkonakacaaGreatDoor.P9 Go.Proofs.YtliihnkonakacaaGreatDoor.B5
set_option linter.unusedVariables false

def nameT (s : List UInt8) : Tok := ⟨1, s, 0⟩

theorem name_parts {s : List UInt8} {m : Nat} (h : isName s m = true) : s ≠ [] ∧ s.length ≤ m ∧ nameLen s = s.length := by
  unfold isName at h
  simp only [Bool.and_eq_true, decide_eq_true_eq, Bool.not_eq_true', List.isEmpty_eq_false_iff] at h
  exact ⟨h.1.1, h.1.2, h.2⟩

theorem toks_name {s : List UInt8} {m : Nat} (h : isName s m = true) : toks s = [nameT s] := by
  obtain ⟨h1, _, h3⟩ := name_parts h
  refine toks_of_next h1 ?_
  have hp : 0 < nameLen s := by rw [h3]; exact List.length_pos_iff.2 h1
  unfold nextTok
  rw [if_pos hp, h3, List.take_length]
  rfl

theorem name_nospace {s : List UInt8} {m : Nat} (h : isName s m = true) : NoSpace s := fun b hb => nameB_space (name_bytes (name_parts h).2.2 b hb)

/-- The tokens of a part. -/
def markToks (m : UInt8) (ns : List (List UInt8)) : List Tok := ns.flatMap fun s => [⟨6, [m], 0⟩, nameT s]
def partToks (p : Pt) : List Tok := (told [p.tag]).map nameT ++ (markToks 61 (told [p.id]) ++ markToks 46 p.bs)

theorem marked_halts {m : UInt8} (hm : isSign m = true) (ns : List (List UInt8)) : Halts (marked10 m ns) ∧ Stops isSpace (marked10 m ns) := by
  obtain ⟨h1, h2, h3, h4⟩ := sign_parts hm
  cases ns with
  | nil => exact ⟨fun b hb => (by cases hb), fun b hb => (by cases hb)⟩
  | cons s r =>
    constructor
    · intro b hb
      have : b = m := by
        have : (some m : Option UInt8) = some b := hb
        exact (Option.some.inj this).symm
      subst this
      exact ⟨h1, h2⟩
    · intro b hb
      have : b = m := by
        have : (some m : Option UInt8) = some b := hb
        exact (Option.some.inj this).symm
      subst this
      exact h3

theorem toks_marked {m : UInt8} (hm : isSign m = true) : ∀ (ns : List (List UInt8)), (∀ s ∈ ns, isName s 8 = true) → toks (marked10 m ns) = markToks m ns
  | [], _ => toks_nil
  | s :: r, h => by
    have e1 : marked10 m (s :: r) = [] ++ m :: (s ++ marked10 m r) := by simp [marked10]
    have e2 : markToks m (s :: r) = ⟨6, [m], 0⟩ :: nameT s :: markToks m r := by simp [markToks]
    obtain ⟨q1, q2⟩ := marked_halts hm r
    rw [e1, toks_sign hm, toks_halt q1 q2, toks_name (h s (by simp)), toks_marked hm r (fun x hx => h x (by simp [hx])), e2, toks_nil]
    rfl

theorem told_in {s : List UInt8} (h : (s.isEmpty || isName s 8) = true) : ∀ x ∈ told [s], isName x 8 = true := by
  intro x hx
  unfold told at hx
  obtain ⟨h1, h2⟩ := List.mem_filter.1 hx
  obtain rfl : x = s := by simpa using h1
  rw [Bool.or_eq_true] at h
  rcases h with h | h
  · rw [h] at h2; cases h2
  · exact h

theorem ok_parts {p : Pt} (h : partOk p = true) : (p.tag.isEmpty || isName p.tag 8) = true ∧ (p.id.isEmpty || isName p.id 8) = true ∧ (∀ s ∈ p.bs, isName s 8 = true) ∧ rises p.bs = true ∧ (p.tag ≠ [] ∨ p.id ≠ [] ∨ p.bs ≠ []) := by
  unfold partOk badgesOk at h
  simp only [Bool.and_eq_true] at h
  obtain ⟨⟨⟨h1, h2⟩, ⟨⟨h3, h4⟩, _⟩⟩, h5⟩ := h
  refine ⟨h1, h2, List.all_eq_true.1 h3, h4, ?_⟩
  simp only [Bool.or_eq_true, Bool.not_eq_true', List.isEmpty_eq_false_iff] at h5
  rcases h5 with (h5 | h5) | h5
  · exact Or.inl h5
  · exact Or.inr (Or.inl h5)
  · exact Or.inr (Or.inr h5)

theorem toks_part {p : Pt} (h : partOk p = true) : toks (partText p) = partToks p := by
  obtain ⟨h1, h2, h3, _, _⟩ := ok_parts h
  unfold partText partToks
  obtain ⟨a1, a2⟩ := marked_halts (m := 46) (by decide) p.bs
  have hid := told_in h2
  have e1 : toks (marked10 61 (told [p.id]) ++ marked10 46 p.bs) = markToks 61 (told [p.id]) ++ markToks 46 p.bs := by
    rw [toks_halt a1 a2, toks_marked (by decide) _ hid, toks_marked (by decide) _ h3]
  have hq : Halts (marked10 61 (told [p.id]) ++ marked10 46 p.bs) ∧ Stops isSpace (marked10 61 (told [p.id]) ++ marked10 46 p.bs) := by
    obtain ⟨b1, b2⟩ := marked_halts (m := 61) (by decide) (told [p.id])
    cases hm : marked10 61 (told [p.id]) with
    | nil => exact ⟨a1, a2⟩
    | cons x r =>
      rw [hm] at b1 b2
      exact ⟨fun b hb => b1 b (by simpa using hb), fun b hb => b2 b (by simpa using hb)⟩
  rw [List.append_assoc, toks_halt hq.1 hq.2, e1]
  congr 1
  by_cases ht : p.tag = []
  · rw [ht]; rfl
  · have hn : isName p.tag 8 = true := by
      rw [Bool.or_eq_true] at h1
      rcases h1 with h1 | h1
      · exact absurd (List.isEmpty_iff.1 h1) ht
      · exact h1
    rw [toks_name hn]
    have : told [p.tag] = [p.tag] := by
      unfold told
      rw [List.filter_cons, if_pos (by simpa using ht)]
      rfl
    rw [this]; rfl

theorem part_nospace {p : Pt} (h : partOk p = true) : NoSpace (partText p) := by
  obtain ⟨h1, h2, h3, _, _⟩ := ok_parts h
  have hm : ∀ (m : UInt8) (ns : List (List UInt8)), isSpace m = false → (∀ s ∈ ns, isName s 8 = true) → NoSpace (marked10 m ns) := fun m ns hs hn b hb => by
    unfold marked10 at hb
    obtain ⟨s, hsm, hb⟩ := List.mem_flatMap.1 hb
    rcases List.mem_cons.1 hb with rfl | hb
    · exact hs
    · exact name_nospace (hn s hsm) b hb
  intro b hb
  unfold partText at hb
  rcases List.mem_append.1 hb with hb | hb
  · rcases List.mem_append.1 hb with hb | hb
    · rw [Bool.or_eq_true] at h1
      rcases h1 with h1 | h1
      · rw [List.isEmpty_iff.1 h1] at hb; cases hb
      · exact name_nospace h1 b hb
    · exact hm 61 _ (by decide) (told_in h2) b hb
  · exact hm 46 _ (by decide) h3 b hb

theorem part_text_ne {p : Pt} (h : partOk p = true) : partText p ≠ [] := by
  obtain ⟨_, _, _, _, h5⟩ := ok_parts h
  unfold partText
  rcases h5 with h5 | h5 | h5
  · intro e
    rw [List.append_assoc] at e
    exact h5 (List.append_eq_nil_iff.1 e).1
  · intro e
    have e1 := (List.append_eq_nil_iff.1 (List.append_eq_nil_iff.1 e).1).2
    have : told [p.id] = [p.id] := by
      unfold told
      rw [List.filter_cons, if_pos (by simpa using h5)]
      rfl
    rw [this] at e1
    simp [marked10] at e1
  · intro e
    have e1 := (List.append_eq_nil_iff.1 e).2
    cases hb : p.bs with
    | nil => exact h5 hb
    | cons s r => rw [hb] at e1; simp [marked10] at e1

theorem part_head {p : Pt} (h : partOk p = true) (q : List UInt8) : ∀ b, (partText p ++ q).head? = some b → isSpace b = false := by
  intro b hb
  cases hp : partText p with
  | nil => exact absurd hp (part_text_ne h)
  | cons x r =>
    rw [hp] at hb
    obtain rfl : x = b := by simpa using hb
    exact part_nospace h x (by rw [hp]; simp)

/-! ### A part's tokens are read as the part -/

theorem marks_dots : ∀ (ns : List (List UInt8)) (p : Pt), marksP p (markToks 46 ns) = some { p with bs := p.bs ++ ns }
  | [], p => by simp [markToks, marksP]
  | s :: r, p => by
    have e2 : markToks 46 (s :: r) = dotT :: nameT s :: markToks 46 r := by simp [markToks, dotT]
    rw [e2]
    show (match withMark p [dotT, nameT s] with
      | some q => marksP q (markToks 46 r)
      | none => none) = _
    rw [withMark_two, if_pos (show (nameT s).k = 1 from rfl), if_neg (by decide), if_pos (by decide)]
    show marksP { p with bs := p.bs ++ [s] } (markToks 46 r) = _
    rw [marks_dots r]
    simp

theorem told_one_is (s : List UInt8) : told [s] = if s = [] then [] else [s] := by
  unfold told
  by_cases h : s = []
  · subst h; rfl
  · rw [if_neg h, List.filter_cons, if_pos (by simpa using h)]
    rfl

theorem read_part {p : Pt} (h : partOk p = true) (n : Bool) : part10 n (partToks p) = ⟨p.tag, p.id, p.bs, n⟩ := by
  obtain ⟨_, _, _, h4, _⟩ := ok_parts h
  have hrest : marksP ⟨p.tag, [], [], false⟩ (markToks 61 (told [p.id]) ++ markToks 46 p.bs) = some ⟨p.tag, p.id, p.bs, false⟩ := by
    rw [told_one_is]
    by_cases hi : p.id = []
    · rw [if_pos hi]
      show marksP ⟨p.tag, [], [], false⟩ (markToks 46 p.bs) = _
      rw [marks_dots, hi]
      rfl
    · rw [if_neg hi]
      show (match withMark ⟨p.tag, [], [], false⟩ [eqT, nameT p.id] with
        | some q => marksP q (markToks 46 p.bs)
        | none => none) = _
      rw [withMark_two, if_pos (show (nameT p.id).k = 1 from rfl), if_pos (by decide), if_pos rfl]
      show marksP ⟨p.tag, p.id, [], false⟩ (markToks 46 p.bs) = _
      rw [marks_dots]
      rfl
  have htag : tagOf (partToks p) = p.tag ∧ restOf (partToks p) = markToks 61 (told [p.id]) ++ markToks 46 p.bs := by
    unfold partToks
    rw [told_one_is p.tag]
    by_cases ht : p.tag = []
    · rw [if_pos ht, ht]
      rw [told_one_is]
      by_cases hi : p.id = []
      · rw [if_pos hi]
        cases hb : p.bs with
        | nil => exact ⟨rfl, rfl⟩
        | cons s r => exact ⟨rfl, rfl⟩
      · rw [if_neg hi]
        exact ⟨rfl, rfl⟩
    · rw [if_neg ht]
      exact ⟨rfl, rfl⟩
  unfold part10 readP
  rw [htag.1, htag.2, hrest]
  show ({ norm ⟨p.tag, p.id, p.bs, false⟩ with near := n } : Pt) = _
  unfold norm
  dsimp only
  rw [rising_self.2 h4]

theorem partToks_ne {p : Pt} (h : partOk p = true) : partToks p ≠ [] := by
  intro e
  have h1 := toks_part h
  rw [e, toks_cons (part_text_ne h)] at h1
  cases h1

theorem partToks_sep {p : Pt} : ∀ y ∈ partToks p, sepT y = false := by
  have hn : ∀ s, sepT (nameT s) = false := fun s => rfl
  have hm : ∀ (m : UInt8) (ns : List (List UInt8)), m ≠ 62 → ∀ y ∈ markToks m ns, sepT y = false := fun m ns hne y hy => by
    unfold markToks at hy
    obtain ⟨s, _, hy⟩ := List.mem_flatMap.1 hy
    rcases List.mem_cons.1 hy with rfl | hy
    · simp [sepT, isSp, signIs, hne]
    · obtain rfl : y = nameT s := by simpa using hy
      rfl
  intro y hy
  unfold partToks at hy
  rcases List.mem_append.1 hy with hy | hy
  · obtain ⟨s, _, rfl⟩ := List.mem_map.1 hy
    rfl
  · rcases List.mem_append.1 hy with hy | hy
    · exact hm 61 _ (by decide) y hy
    · exact hm 46 _ (by decide) y hy

/-! ### The whole text -/

def tailText (r : List Pt) : List UInt8 := r.flatMap fun p => 32 :: ((if p.near = true then [62, 32] else []) ++ partText p)

theorem join_flat (x : List UInt8) : ∀ (l : List (List UInt8)), P9.joinBy [32] (x :: l) = x ++ l.flatMap (fun y => 32 :: y)
  | [] => by simp [P9.joinBy]
  | y :: r => by
    have e : P9.joinBy [32] (x :: y :: r) = x ++ [32] ++ P9.joinBy [32] (y :: r) := rfl
    rw [e, join_flat y r]
    simp

theorem show_text {p : Pt} {r : List Pt} (h : pickOk (p :: r) = true) : showPick (p :: r) = partText p ++ tailText r := by
  unfold showPick
  rw [if_pos h]
  have hn : p.near = false := by
    unfold pickOk at h
    simp only [Bool.and_eq_true, Bool.not_eq_true'] at h
    exact h.2
  have e1 : (p :: r).flatMap partTexts = partText p :: r.flatMap partTexts := by
    rw [List.flatMap_cons]
    unfold partTexts
    rw [hn]
    rfl
  rw [e1, join_flat, List.flatMap_assoc]
  congr 1
  unfold tailText
  congr 1
  funext q
  unfold partTexts
  cases q.near <;> simp

def tailToks (E : List Tok) : List Pt → List Tok
  | [] => E
  | p :: r => spT :: ((if p.near = true then [gtT, spT] else []) ++ (partToks p ++ tailToks E r))

theorem tail_ends {e : List UInt8} (he : e = [] ∨ e = [32]) (r : List Pt) : P5.Ends (tailText r ++ e) := by
  intro b hb
  cases r with
  | nil =>
    rcases he with rfl | rfl
    · cases hb
    · obtain rfl : b = 32 := by
        have : (some 32 : Option UInt8) = some b := hb
        exact (Option.some.inj this).symm
      rfl
  | cons p r =>
    obtain rfl : b = 32 := by
      have : (some 32 : Option UInt8) = some b := hb
      exact (Option.some.inj this).symm
    rfl

theorem toks_tail {e : List UInt8} (he : e = [] ∨ e = [32]) : ∀ (r : List Pt), (∀ p ∈ r, partOk p = true) → toks (tailText r ++ e) = tailToks (toks e) r
  | [], _ => rfl
  | p :: r, h => by
    have hp := h p (by simp)
    have ih := toks_tail he r (fun q hq => h q (by simp [hq]))
    have hx : toks (partText p ++ (tailText r ++ e)) = partToks p ++ tailToks (toks e) r := by
      rw [toks_cut (tail_ends he r) (part_nospace hp), toks_part hp, ih]
    have e1 : tailText (p :: r) ++ e = 32 :: ((if p.near = true then [62, 32] else []) ++ (partText p ++ (tailText r ++ e))) := by
      unfold tailText
      simp
    rw [e1]
    unfold tailToks
    cases hn : p.near
    · rw [if_neg (by decide), if_neg (by decide), List.nil_append, List.nil_append, space_toks (part_head hp _), hx]
      rfl
    · rw [if_pos rfl, if_pos rfl]
      show toks (32 :: 62 :: 32 :: (partText p ++ (tailText r ++ e))) = _
      have e2 : (62 : UInt8) :: 32 :: (partText p ++ (tailText r ++ e)) = [] ++ 62 :: (32 :: (partText p ++ (tailText r ++ e))) := rfl
      have e3 : ∀ b, ((62 : UInt8) :: 32 :: (partText p ++ (tailText r ++ e))).head? = some b → isSpace b = false := fun b hb => by
        have h0 : (some 62 : Option UInt8) = some b := hb
        rw [← Option.some.inj h0]
        rfl
      rw [space_toks e3, e2, toks_sign (by decide), toks_nil, space_toks (part_head hp _), hx]
      rfl

theorem tail_hd {E : List Tok} (hE : SepHd E) : ∀ (r : List Pt), SepHd (tailToks E r)
  | [] => hE
  | p :: r => Or.inr ⟨spT, _, rfl, rfl⟩

theorem rows_tail {E : List Tok} (hE : SepHd E) (hT : tailP (rowsT E) = []) : ∀ (r : List Pt), (∀ p ∈ r, partOk p = true) → Good (tailToks E r) → tailP (rowsT (tailToks E r)) = r
  | [], _, _ => hT
  | p :: r, h, hg => by
    have hp := h p (by simp)
    have hg2 : Good (partToks p ++ tailToks E r) := fun x hx => hg x (by
      unfold tailToks
      exact List.mem_cons_of_mem _ (List.mem_append_right _ hx))
    have ih := rows_tail hE hT r (fun q hq => h q (by simp [hq])) (fun x hx => hg2 x (List.mem_append_right _ hx))
    obtain ⟨row, rows, e1, e2⟩ := rows_piece (partToks p) (tailToks E r) (partToks_ne hp) hg2 partToks_sep (tail_hd hE r)
    rw [e1] at ih
    have hs : spT.same spT = true := by decide
    have hgt : gtT.same gtT = true := by decide
    unfold tailToks
    cases hn : p.near
    · rw [if_neg (by decide), List.nil_append, rows_sp hs, e2]
      show (part10 false (partToks p) :: row.map (part10 false)) ++ rows.flatMap (rowP true) = p :: r
      rw [read_part hp, List.cons_append]
      have : row.map (part10 false) ++ rows.flatMap (rowP true) = r := ih
      rw [this, ← hn]
    · rw [if_pos rfl]
      show tailP (rowsT (spT :: gtT :: spT :: (partToks p ++ tailToks E r))) = _
      rw [rows_sp hs, rows_gt hgt, rows_sp hs, e2]
      show [] ++ ((part10 true (partToks p) :: row.map (part10 false)) ++ rows.flatMap (rowP true)) = p :: r
      rw [read_part hp, List.nil_append, List.cons_append]
      have : row.map (part10 false) ++ rows.flatMap (rowP true) = r := ih
      rw [this, ← hn]

theorem pick_parts {ps : List Pt} (h : pickOk ps = true) : ∃ p r, ps = p :: r ∧ p.near = false ∧ (∀ q ∈ ps, partOk q = true) := by
  unfold pickOk at h
  simp only [Bool.and_eq_true, Bool.not_eq_true', decide_eq_true_eq] at h
  obtain ⟨⟨⟨h1, h2⟩, _⟩, h4⟩ := h
  cases ps with
  | nil => simp at h2
  | cons p r => exact ⟨p, r, rfl, h4, List.all_eq_true.1 h1⟩

theorem guess_shown {p : Pt} {r : List Pt} (hn : p.near = false) (h : ∀ q ∈ p :: r, partOk q = true) {E : List Tok} (hE : SepHd E) (hT : tailP (rowsT E) = []) (hg : Good (partToks p ++ tailToks E r)) : startP (rowsT (partToks p ++ tailToks E r)) = p :: r := by
  have hp := h p (by simp)
  obtain ⟨row, rows, e1, e2⟩ := rows_piece (partToks p) (tailToks E r) (partToks_ne hp) hg partToks_sep (tail_hd hE r)
  have ih := rows_tail hE hT r (fun q hq => h q (by simp [hq])) (fun x hx => hg x (List.mem_append_right _ hx))
  rw [e1] at ih
  rw [e2]
  show (part10 false (partToks p) :: row.map (part10 false)) ++ rows.flatMap (rowP true) = p :: r
  rw [read_part hp, List.cons_append]
  have : row.map (part10 false) ++ rows.flatMap (rowP true) = r := ih
  rw [this, ← hn]

theorem good_toks {s : List UInt8} (h : s.length ≤ 4000) : Good (toks s) := fun x hx => ok_P (toks_ok h x hx)

/-- A pick that is shown is read again. -/
theorem read_shown {ps : List Pt} (h : pickOk ps = true) (hl : (showPick ps).length ≤ 4000) : readPick (tokensOf (showPick ps)) = some ps := by
  obtain ⟨p, r, rfl, hn, hall⟩ := pick_parts h
  have hr : ∀ q ∈ r, partOk q = true := fun q hq => hall q (by simp [hq])
  have ht : toks (showPick (p :: r)) = partToks p ++ tailToks [] r := by
    have := toks_tail (e := []) (Or.inl rfl) r hr
    rw [List.append_nil] at this
    rw [show_text h]
    have he := tail_ends (e := []) (Or.inl rfl) r
    rw [List.append_nil] at he
    rw [toks_cut he (part_nospace (hall p (by simp))), toks_part (hall p (by simp)), this]
    rfl
  have hg := good_toks hl
  unfold tokensOf
  rw [if_neg (by omega), readPick_is, guess_is hg]
  rw [ht] at hg ⊢
  rw [guess_shown hn hall (Or.inl rfl) rfl hg]
  unfold finish
  rw [if_pos h]

/-- .. with spaces around it. -/
theorem read_spaced {ps : List Pt} (h : pickOk ps = true) (hl : (showPick ps).length ≤ 3000) : readPick (tokensOf (10 :: showPick ps ++ [32])) = some ps := by
  obtain ⟨p, r, rfl, hn, hall⟩ := pick_parts h
  have hr : ∀ q ∈ r, partOk q = true := fun q hq => hall q (by simp [hq])
  have hp := hall p (by simp)
  have ht : toks (10 :: showPick (p :: r) ++ [32]) = spT :: (partToks p ++ tailToks [spT] r) := by
    have h1 := toks_tail (e := [32]) (Or.inr rfl) r hr
    have h2 : toks [32] = [spT] := by rw [toks_spaces (by decide)]; rfl
    rw [h2] at h1
    rw [show_text h]
    show toks (10 :: (partText p ++ tailText r ++ [32])) = _
    rw [List.append_assoc, toks_spaces (by decide), dw_none (part_head hp _), toks_cut (tail_ends (Or.inr rfl) r) (part_nospace hp), toks_part hp, h1]
    rfl
  have hlen : (10 :: showPick (p :: r) ++ [32]).length ≤ 4000 := by simp; omega
  have hg := good_toks hlen
  unfold tokensOf
  rw [if_neg (by omega), readPick_is, guess_is hg]
  rw [ht] at hg ⊢
  rw [rows_sp (by decide), guess_shown hn hall (Or.inr ⟨spT, [], rfl, rfl⟩) (by rw [rows_sp (by decide)]; rfl) (fun x hx => hg x (by simp [hx]))]
  unfold finish
  rw [if_pos h]

theorem show_nonempty {ps : List Pt} (h : pickOk ps = true) : showPick ps ≠ [] := by
  obtain ⟨p, r, rfl, hn, hall⟩ := pick_parts h
  rw [show_text h]
  intro e
  exact part_text_ne (hall p (by simp)) (List.append_eq_nil_iff.1 e).1

theorem show_empty {ps : List Pt} (h : pickOk ps = false) : showPick ps = [] := by
  unfold showPick
  rw [if_neg (by rw [h]; decide)]

end Go.Proofs.YtliihnkonakacaaGreatDoor.P10
