/- Plain functions of chapter 9 (notes), and plain facts on them: no program, no model. -/
import Derived.Test.YtmcjfjchpclamaaSigns
import Derived.Test.YtmcjfjchpclamaaPlain8
namespace Go.Proofs.Ytmcjfjchpclamaa.P9
open Go.Proofs.Ytmcjfjchpclamaa.P1 Go.Proofs.Ytmcjfjchpclamaa.T1 Go.Proofs.Ytmcjfjchpclamaa.P5 Go.Proofs.Ytmcjfjchpclamaa.P6 Go.Proofs.Ytmcjfjchpclamaa.P8 Go.Lib

/-- A note by its parts. -/
structure No where
  l : Int
  v : Va
  s : Bool

def No.same (x y : No) : Bool := x.l == y.l && x.v.same y.v && x.s == y.s

theorem No.same_iff {x y : No} : x.same y = true ↔ x = y := by
  obtain ⟨a, b, c⟩ := x
  obtain ⟨a', b', c'⟩ := y
  simp [No.same, Va.same_iff, and_assoc]

def No.zero : No := ⟨0, Va.zero, false⟩

def noteOk (n : No) : Bool := fits n.l n.v

def notesOk (ns : List No) : Bool := ns.all noteOk && decide (ns.length ≤ 12)

def strongN : List UInt8 := [115, 116, 114, 111, 110, 103]

def strongT (s : Bool) : List UInt8 := if s = true then 32 :: 33 :: strongN else []

def showNote (n : No) : List UInt8 := nameOf n.l ++ 58 :: 32 :: (showVal n.v ++ strongT n.s)

def joinBy (by_ : List UInt8) : List (List UInt8) → List UInt8
  | [] => []
  | [x] => x
  | x :: r => x ++ by_ ++ joinBy by_ r

def showNotes (ns : List No) : List UInt8 := if notesOk ns = true then joinBy [59, 32] (ns.map showNote) else []

def signIs (x : Tok) (c : UInt8) : Bool := x.k == 6 && x.t == [c]

/-- What stands ahead of a '!', and whether 'strong' stands behind it. -/
def bang : List Tok → Option (List Tok × Bool)
  | [] => some ([], false)
  | x :: r => if signIs x 33 = true then (match r with
      | [y] => if y.k = 1 ∧ y.t = strongN then some ([], true) else none
      | _ => none)
    else (bang r).map fun ps => (x :: ps.1, ps.2)

def noteOf (a : Tok) (q : List Tok) : Option No := match bang q with
  | none => none
  | some (p, s) => match readToks p with
    | none => none
    | some v => if fits (lookOf a.t) v = true then some ⟨lookOf a.t, v, s⟩ else none

def afterName (a : Tok) : List Tok → Option No
  | [] => none
  | c :: q => if signIs c 58 = true then noteOf a q else none

/-- The note of one piece. -/
def piece (ts : List Tok) : Option No := match squeeze ts with
  | a :: b :: r => if a.k = 1 then afterName a (if b.k = 5 then r else b :: r) else none
  | _ => none

/-- The tokens cut at each ';'. -/
def pieces : List Tok → List (List Tok)
  | [] => [[]]
  | x :: r => if signIs x 59 = true then [] :: pieces r else (match pieces r with
      | [] => [[x]]
      | p :: ps => (x :: p) :: ps)

def read9 (ts : List Tok) : List No := (pieces ts).filterMap piece

def readNotes (ts : List Tok) : List No := if ts.all tokOk = true then (read9 ts).take 12 else []

def noteFor (ns : List No) (l : Int) : Option No := ((ns.filter fun n => n.l == l && n.s).getLast?).or ((ns.filter fun n => n.l == l).getLast?)

theorem noteOf_ok {a : Tok} {q : List Tok} {n : No} (h : noteOf a q = some n) : noteOk n = true := by
  unfold noteOf at h
  split at h
  · cases h
  · split at h
    · cases h
    · split at h
      · cases h; rename_i hf; exact hf
      · cases h

theorem piece_ok {ts : List Tok} {n : No} (h : piece ts = some n) : noteOk n = true := by
  unfold piece at h
  split at h
  · split at h
    · unfold afterName at h
      split at h
      · cases h
      · split at h
        · exact noteOf_ok h
        · cases h
    · cases h
  · cases h

theorem read_ok {ts : List Tok} : ∀ n ∈ readNotes ts, noteOk n = true := by
  intro n hn
  unfold readNotes at hn
  split at hn
  · have := List.mem_of_mem_take hn
    unfold read9 at this
    obtain ⟨p, _, hp⟩ := List.mem_filterMap.1 this
    exact piece_ok hp
  · cases hn

theorem read_few (ts : List Tok) : (readNotes ts).length ≤ 12 := by
  unfold readNotes
  split
  · rw [List.length_take]; omega
  · simp

theorem pieces_ne (ts : List Tok) : pieces ts ≠ [] := by
  cases ts with
  | nil => simp [pieces]
  | cons x r =>
    unfold pieces
    split
    · simp
    · split <;> simp

theorem pieces_cons (x : Tok) (r : List Tok) : pieces (x :: r) = if signIs x 59 = true then [] :: pieces r else (match pieces r with
    | [] => [[x]]
    | p :: ps => (x :: p) :: ps) := rfl

theorem afterName_cons (a c : Tok) (q : List Tok) : afterName a (c :: q) = if signIs c 58 = true then noteOf a q else none := rfl

theorem pieces_cut {c : Tok} (hc : signIs c 59 = true) (x y : List Tok) : pieces (x ++ c :: y) = pieces x ++ pieces y := by
  induction x with
  | nil => simp [pieces, hc]
  | cons a r ih =>
    rw [List.cons_append, pieces_cons, pieces_cons, ih]
    split
    · rfl
    · cases hp : pieces r with
      | nil => exact absurd hp (pieces_ne r)
      | cons p ps => rfl

theorem pieces_whole {ts : List Tok} (h : ∀ x ∈ ts, signIs x 59 = false) : pieces ts = [ts] := by
  induction ts with
  | nil => rfl
  | cons x r ih =>
    unfold pieces
    rw [ih (fun y hy => h y (List.mem_cons_of_mem _ hy)), h x (List.mem_cons_self ..)]
    rfl

theorem read9_cut {c : Tok} (hc : signIs c 59 = true) (x y : List Tok) : read9 (x ++ c :: y) = read9 x ++ read9 y := by
  unfold read9
  rw [pieces_cut hc, List.filterMap_append]

/-- A space ahead of a piece changes nothing. -/
theorem piece_space (ts : List Tok) : piece (⟨5, [], 0⟩ :: ts) = piece ts := by
  unfold piece
  have : squeeze (⟨5, [], 0⟩ :: ts) = squeeze ts := rfl
  rw [this]

theorem read9_space (ts : List Tok) : read9 (⟨5, [], 0⟩ :: ts) = read9 ts := by
  unfold read9
  have h : pieces (⟨5, [], 0⟩ :: ts) = match pieces ts with
    | [] => [[⟨5, [], 0⟩]]
    | p :: ps => (⟨5, [], 0⟩ :: p) :: ps := by
    show (if signIs ⟨5, [], 0⟩ 59 = true then [] :: pieces ts else _) = _
    rw [if_neg (by decide)]
  rw [h]
  cases hp : pieces ts with
  | nil => exact absurd hp (pieces_ne ts)
  | cons p ps =>
    simp only [List.filterMap_cons, piece_space]

/-- The tokens of a shown note. -/
def noteToks (n : No) : List Tok := [⟨1, nameOf n.l, 0⟩, ⟨6, [58], 0⟩, ⟨5, [], 0⟩, valTok n.v] ++ if n.s = true then [⟨5, [], 0⟩, ⟨6, [33], 0⟩, ⟨1, strongN, 0⟩] else []

theorem toks_name {l : Int} (h : isLook l = true) : toks (nameOf l) = [⟨1, nameOf l, 0⟩] := by
  rcases look_cases h with rfl | rfl | rfl | rfl | rfl | rfl <;> rfl

theorem toks_strong : toks (32 :: 33 :: strongN) = [⟨5, [], 0⟩, ⟨6, [33], 0⟩, ⟨1, strongN, 0⟩] := rfl

theorem space_toks {r : List UInt8} (h : ∀ b, r.head? = some b → isSpace b = false) : toks (32 :: r) = ⟨5, [], 0⟩ :: toks r := by
  rw [toks_spaces (by decide), dw_none h]

theorem show_head {v : Va} (h : valueOk v = true) (q : List UInt8) : ∀ b, (showVal v ++ q).head? = some b → isSpace b = false := by
  intro b hb
  cases hs : showVal v with
  | nil => exact absurd hs (show_ne h)
  | cons x t =>
    rw [hs] at hb
    obtain rfl : x = b := by simpa using hb
    exact show_spaceless h x (by rw [hs]; exact List.mem_cons_self ..)

theorem note_toks {n : No} (h : noteOk n = true) : toks (showNote n) = noteToks n := by
  have hv := fits_ok h
  have hl := fits_look h
  unfold showNote noteToks
  rw [toks_sign (by decide), toks_name hl, space_toks (show_head hv _)]
  cases hs : n.s
  · simp [strongT, show_toks hv]
  · have : toks (showVal n.v ++ (32 :: 33 :: strongN)) = [valTok n.v] ++ toks (32 :: 33 :: strongN) := by
      rw [toks_cut (ends_space (by decide)) (show_spaceless hv), show_toks hv]
    simp [strongT, this, toks_strong]

theorem valTok_kind (v : Va) : (valTok v).k ≠ 6 := by
  unfold valTok
  repeat' split
  all_goals simp

theorem valTok_sign (v : Va) (c : UInt8) : signIs (valTok v) c = false := by
  unfold signIs
  simp [valTok_kind v]

theorem noteToks_semi (n : No) : ∀ x ∈ noteToks n, signIs x 59 = false := by
  intro x hx
  unfold noteToks at hx
  rw [List.mem_append] at hx
  rcases hx with hx | hx
  · simp only [List.mem_cons, List.not_mem_nil, or_false] at hx
    rcases hx with rfl | rfl | rfl | rfl
    · rfl
    · rfl
    · rfl
    · exact valTok_sign _ _
  · split at hx
    · simp only [List.mem_cons, List.not_mem_nil, or_false] at hx
      rcases hx with rfl | rfl | rfl <;> rfl
    · cases hx

theorem squeeze_note (n : No) : squeeze (noteToks n) = noteToks n := by
  have hv : isSp (valTok n.v) = false := valTok_sp
  unfold noteToks
  cases n.s
  · simp [squeeze, sqF, isSp, trimEnd]
    unfold isSp at hv
    simp at hv
    simp [hv]
  · unfold isSp at hv
    simp at hv
    simp [squeeze, sqF, isSp, trimEnd, hv]

theorem read_val {v : Va} (h : valueOk v = true) (s : Bool) : readToks (⟨5, [], 0⟩ :: valTok v :: if s = true then [⟨5, [], 0⟩] else []) = some v := by
  have hv : isSp (valTok v) = false := valTok_sp
  have hok := valTok_ok h
  have h5 : tokOk ⟨5, [], 0⟩ = true := spaceTok_ok
  unfold readToks
  have hall : (⟨5, [], 0⟩ :: valTok v :: if s = true then [⟨5, [], 0⟩] else []).all tokOk = true := by
    cases s <;> simp [hok, h5]
  have hsq : squeeze (⟨5, [], 0⟩ :: valTok v :: if s = true then [⟨5, [], 0⟩] else []) = [valTok v] := by
    unfold isSp at hv
    simp at hv
    cases s <;> simp [squeeze, sqF, isSp, trimEnd, hv]
  rw [if_pos hall, hsq]
  simp only [tok_val h, h, if_true]

theorem piece_note {n : No} (h : noteOk n = true) : piece (noteToks n) = some n := by
  have hv := fits_ok h
  have hl := fits_look h
  unfold piece
  rw [squeeze_note]
  unfold noteToks
  simp only [List.cons_append, List.nil_append]
  rw [if_pos trivial, if_neg (by decide)]
  rw [afterName_cons, if_pos (show signIs ⟨6, [58], 0⟩ 58 = true from rfl)]
  have hb : bang (⟨5, [], 0⟩ :: valTok n.v :: if n.s = true then [⟨5, [], 0⟩, ⟨6, [33], 0⟩, ⟨1, strongN, 0⟩] else []) = some (⟨5, [], 0⟩ :: valTok n.v :: (if n.s = true then [⟨5, [], 0⟩] else []), n.s) := by
    have h1 := valTok_sign n.v 33
    cases n.s
    · simp only [Bool.false_eq_true, if_false]
      unfold bang
      rw [if_neg (by decide)]
      unfold bang
      rw [if_neg (by rw [h1]; simp)]
      rfl
    · simp only [if_true]
      unfold bang
      rw [if_neg (by decide)]
      unfold bang
      rw [if_neg (by rw [h1]; simp)]
      rfl
  unfold noteOf
  rw [hb]
  simp only
  rw [read_val hv]
  simp only
  rw [look_name hl, if_pos (show fits n.l n.v = true from h)]

theorem read9_note {n : No} (h : noteOk n = true) : read9 (noteToks n) = [n] := by
  unfold read9
  rw [pieces_whole (noteToks_semi n)]
  simp [piece_note h]

theorem name_head {l : Int} (h : isLook l = true) (q : List UInt8) : ∀ b, (nameOf l ++ q).head? = some b → isSpace b = false := by
  intro b hb
  rcases look_cases h with rfl | rfl | rfl | rfl | rfl | rfl
  all_goals
    simp [nameOf] at hb
    subst hb
    rfl

/-- What is shown of right notes is read back. -/
theorem read_join : ∀ (ns : List No), (∀ n ∈ ns, noteOk n = true) → read9 (toks (joinBy [59, 32] (ns.map showNote))) = ns
  | [], _ => rfl
  | [n], h => by
    have hn := h n (List.mem_cons_self ..)
    show read9 (toks (showNote n)) = [n]
    rw [note_toks hn, read9_note hn]
  | n :: m :: r, h => by
    have hn := h n (List.mem_cons_self ..)
    have hm := h m (List.mem_cons_of_mem _ (List.mem_cons_self ..))
    have ih := read_join (m :: r) (fun x hx => h x (List.mem_cons_of_mem _ hx))
    have hhead : ∀ b, (joinBy [59, 32] ((m :: r).map showNote)).head? = some b → isSpace b = false := by
      intro b hb
      have hb' : ∃ q, joinBy [59, 32] ((m :: r).map showNote) = nameOf m.l ++ q := by
        cases r with
        | nil => exact ⟨_, rfl⟩
        | cons x t =>
          show ∃ q, showNote m ++ [59, 32] ++ joinBy [59, 32] ((x :: t).map showNote) = nameOf m.l ++ q
          unfold showNote
          exact ⟨_, by rw [List.append_assoc, List.append_assoc]⟩
      obtain ⟨q, hq⟩ := hb'
      rw [hq] at hb
      exact name_head (fits_look hm) q b hb
    have he : joinBy [59, 32] ((n :: m :: r).map showNote) = showNote n ++ 59 :: 32 :: joinBy [59, 32] ((m :: r).map showNote) := by
      show showNote n ++ [59, 32] ++ joinBy [59, 32] ((m :: r).map showNote) = _
      rw [List.append_assoc]
      rfl
    rw [he, toks_sign (by decide), space_toks hhead, read9_cut (by rfl), read9_space, ih, note_toks hn, read9_note hn]
    rfl

theorem itoa_len {n : Int} (h0 : -1000000 ≤ n) (h1 : n ≤ 1000000) : (itoa n).length ≤ 21 := by
  unfold itoa
  split
  · have := dec_length n.natAbs 19 (by omega)
    simp; omega
  · have := dec_length n.toNat 19 (by omega)
    omega

theorem show_short {y : Va} (hv : valueOk y = true) : (showVal y).length ≤ 30 := by
  rcases valueOk_cases hv with ⟨hk, h0, h1, e⟩ | ⟨hk, hr, hg, hb, hc, hn, hw⟩ | ⟨hk, hne, hl', hn, e⟩
  · have := itoa_len (n := y.n) (by omega) (by omega)
    unfold showVal
    rcases hk with hk | hk | hk
    · rw [if_pos hk]; omega
    · rw [if_neg (by omega), if_pos hk, List.length_append]; simp; omega
    · rw [if_neg (by omega), if_neg (by omega), if_pos hk, List.length_append]; simp; omega
  · unfold showVal
    rw [if_neg (by omega), if_neg (by omega), if_neg (by omega), if_pos hk, List.length_cons, color_len]
    split <;> omega
  · unfold showVal
    rw [if_neg (by omega), if_neg (by omega), if_neg (by omega), if_neg (by omega)]; omega

theorem note_len {n : No} (h : noteOk n = true) : (showNote n).length ≤ 50 := by
  have h1 := name_len n.l
  have h2 := show_short (fits_ok h)
  have h3 : (strongT n.s).length ≤ 8 := by cases n.s <;> decide
  unfold showNote
  simp only [List.length_append, List.length_cons]
  omega

theorem join_len {m : Nat} {b : List UInt8} : ∀ {xs : List (List UInt8)}, (∀ x ∈ xs, x.length ≤ m) → (joinBy b xs).length ≤ xs.length * (m + b.length)
  | [], _ => by simp [joinBy]
  | [x], h => by
    have := h x (List.mem_cons_self ..)
    simp [joinBy]; omega
  | x :: y :: r, h => by
    have h1 := h x (List.mem_cons_self ..)
    have h2 := join_len (b := b) (xs := y :: r) (fun z hz => h z (List.mem_cons_of_mem _ hz))
    show (x ++ b ++ joinBy b (y :: r)).length ≤ _
    simp only [List.length_append, List.length_cons, Nat.add_mul] at h2 ⊢
    omega

theorem notes_len (ns : List No) : (showNotes ns).length ≤ 624 := by
  unfold showNotes
  split
  · rename_i h
    unfold notesOk at h
    rw [Bool.and_eq_true, decide_eq_true_eq, List.all_eq_true] at h
    have := join_len (m := 50) (b := [59, 32]) (xs := ns.map showNote) (fun x hx => by
      obtain ⟨n, hn, rfl⟩ := List.mem_map.1 hx
      exact note_len (h.1 n hn))
    rw [List.length_map] at this
    have h2 : ns.length * (50 + [59, 32].length) ≤ 12 * 52 := Nat.mul_le_mul h.2 (by decide)
    omega
  · simp

/-- Notes are read from their text. -/
theorem read_show {ns : List No} (h : notesOk ns = true) : readNotes (tokensOf (showNotes ns)) = ns := by
  have hl := notes_len ns
  unfold tokensOf
  rw [if_neg (by omega)]
  unfold readNotes
  rw [if_pos (List.all_eq_true.2 (toks_ok (by omega)))]
  unfold showNotes
  rw [if_pos h]
  unfold notesOk at h
  rw [Bool.and_eq_true, decide_eq_true_eq, List.all_eq_true] at h
  rw [read_join ns h.1, List.take_of_length_le h.2]

end Go.Proofs.Ytmcjfjchpclamaa.P9
