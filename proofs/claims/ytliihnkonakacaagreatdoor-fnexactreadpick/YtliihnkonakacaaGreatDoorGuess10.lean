/- Chapter 10 of the program: guessPick, ReadPick. -/
import Derived.Test.YtliihnkonakacaaGreatDoorPart10
import Derived.Test.YtliihnkonakacaaGreatDoorImp10d
namespace Go.Proofs.YtliihnkonakacaaGreatDoor.B10
open Go.Proofs.YtliihnkonakacaaGreatDoor.P1 Go.Proofs.YtliihnkonakacaaGreatDoor.B1 Go.Proofs.YtliihnkonakacaaGreatDoor.B2 Go.Proofs.YtliihnkonakacaaGreatDoor.T1 Go.Proofs.YtliihnkonakacaaGreatDoor.BT Go.Proofs.YtliihnkonakacaaGreatDoor.P5 Go.Proofs.YtliihnkonakacaaGreatDoor.P6 Go.Proofs.YtliihnkonakacaaGreatDoor.P9 Go.Proofs.YtliihnkonakacaaGreatDoor.B5 Go.Proofs.YtliihnkonakacaaGreatDoor.B6 Go.Proofs.YtliihnkonakacaaGreatDoor.B9 Go.Proofs.YtliihnkonakacaaGreatDoor.D1 Go.Proofs.YtliihnkonakacaaGreatDoor.W8 Go.Proofs.YtliihnkonakacaaGreatDoor.RC Go.Proofs.YtliihnkonakacaaGreatDoor.RI Go.Proofs.YtliihnkonakacaaGreatDoor.P10
open Go.ChangeShapes Go.WideShapes Go.ChangeAt Go.RowKit
set_option linter.unusedVariables false

/-! ### How many -/

theorem split_sum (t : Tok) : ∀ (ts : List Tok), ((splitT t ts).map fun q => q.length + 1).sum = ts.length + 1
  | [] => rfl
  | x :: r => by
    have ih := split_sum t r
    cases hx : x.same t
    · obtain ⟨q, qs, e⟩ := split_form t r
      rw [split_no hx e]
      rw [e] at ih
      simp only [List.map_cons, List.sum_cons, List.length_cons] at ih ⊢
      omega
    · rw [split_hit hx]
      simp only [List.map_cons, List.sum_cons, List.length_cons, List.length_nil]
      omega

theorem sum_ge {l : List Nat} {x : Nat} (h : x ∈ l) : x ≤ l.sum := by
  induction l with
  | nil => cases h
  | cons y r ih =>
    rw [List.sum_cons]
    rcases List.mem_cons.1 h with rfl | h
    · omega
    · have := ih h; omega

theorem split_piece {t : Tok} {ts q : List Tok} (h : q ∈ splitT t ts) : q.length ≤ ts.length := by
  have := sum_ge (List.mem_map.2 ⟨q, h, rfl⟩ : q.length + 1 ∈ (splitT t ts).map fun q => q.length + 1)
  rw [split_sum] at this
  omega

theorem len_le_sum : ∀ (l : List (List Tok)), l.length ≤ (l.map fun q => q.length + 1).sum
  | [] => Nat.le_refl _
  | q :: r => by
    have := len_le_sum r
    simp only [List.map_cons, List.sum_cons, List.length_cons]
    omega

theorem split_count (t : Tok) (ts : List Tok) : (splitT t ts).length ≤ ts.length + 1 := by
  rw [← split_sum t ts]
  exact len_le_sum _

theorem squeezedP_len (ts : List Tok) : (squeezedP ts).length ≤ ts.length := by
  unfold squeezedP
  split
  · exact sqP_len true ts
  · simp

theorem squeezedP_mem {ts : List Tok} {x : Tok} (h : x ∈ squeezedP ts) : x ∈ ts := by
  unfold squeezedP at h
  split at h
  · exact sqP_mem _ _ h
  · cases h

/-! ### Row by row -/

def rowsG (rows : List (List Tok)) : List Pt := match rows with
  | [] => []
  | r :: rs => rowParts false r ++ rs.flatMap (rowParts true)

theorem guess_rows (ts : List Tok) : guess ts = rowsG (splitT gtT ts) := rfl

theorem rowParts_len (n : Bool) (row : List Tok) : (rowParts n row).length = (splitT spT (squeezedP row)).length := by
  unfold rowParts
  cases splitT spT (squeezedP row) with
  | nil => rfl
  | cons q qs => simp

theorem rowParts_ne (n : Bool) (row : List Tok) : rowParts n row ≠ [] := by
  intro e
  have := rowParts_len n row
  rw [e] at this
  exact split_ne spT (squeezedP row) (List.length_eq_zero_iff.1 this.symm)

theorem rowParts_at {n : Bool} {row q : List Tok} {j : Nat} (h : (splitT spT (squeezedP row))[j]? = some q) : (rowParts n row)[j]? = some (part10 (decide (j = 0) && n) q) := by
  unfold rowParts
  cases hs : splitT spT (squeezedP row) with
  | nil => rw [hs] at h; simp at h
  | cons a r =>
    rw [hs] at h
    cases j with
    | zero =>
      have : a = q := by simpa using h
      subst this
      simp
    | succ j =>
      have h' : r[j]? = some q := by simpa using h
      show (part10 n a :: r.map (part10 false))[j + 1]? = _
      rw [List.getElem?_cons_succ, List.getElem?_map, h']
      simp

theorem rowsG_take {rows : List (List Tok)} {i : Nat} {row : List Tok} (h : rows[i]? = some row) : rowsG (rows.take (i + 1)) = rowsG (rows.take i) ++ rowParts (decide (0 < (rowsG (rows.take i)).length)) row := by
  cases rows with
  | nil => simp at h
  | cons r rs =>
    cases i with
    | zero =>
      have : r = row := by simpa using h
      subst this
      simp [rowsG]
    | succ i =>
      have h' : rs[i]? = some row := by simpa using h
      have hpos : 0 < (rowsG ((r :: rs).take (i + 1))).length := by
        show 0 < (rowParts false r ++ (rs.take i).flatMap (rowParts true)).length
        have := List.length_pos_iff.2 (rowParts_ne false r)
        rw [List.length_append]
        omega
      rw [decide_eq_true hpos]
      show rowParts false r ++ (rs.take (i + 1)).flatMap (rowParts true) = rowParts false r ++ (rs.take i).flatMap (rowParts true) ++ rowParts true row
      rw [List.take_add_one, h', List.flatMap_append, List.append_assoc]
      simp

theorem rowsG_len : ∀ (rows : List (List Tok)), (rowsG rows).length ≤ (rows.map fun q => q.length + 1).sum := by
  have one : ∀ (n : Bool) (row : List Tok), (rowParts n row).length ≤ row.length + 1 := fun n row => by
    rw [rowParts_len]
    have h1 := split_count spT (squeezedP row)
    have h2 := squeezedP_len row
    omega
  have many : ∀ (rs : List (List Tok)), (rs.flatMap (rowParts true)).length ≤ (rs.map fun q => q.length + 1).sum := fun rs => by
    induction rs with
    | nil => exact Nat.le_refl _
    | cons r rs ih =>
      rw [List.flatMap_cons, List.length_append, List.map_cons, List.sum_cons]
      have := one true r
      omega
  intro rows
  cases rows with
  | nil => exact Nat.le_refl _
  | cons r rs =>
    show (rowParts false r ++ rs.flatMap (rowParts true)).length ≤ _
    rw [List.length_append, List.map_cons, List.sum_cons]
    have h1 := one false r
    have h2 := many rs
    omega

theorem guess_len (ts : List Tok) : (guess ts).length ≤ ts.length + 1 := by
  rw [guess_rows, ← split_sum gtT ts]
  exact rowsG_len _

theorem rowsG_prefix {rows : List (List Tok)} {i : Nat} : ∀ (k : Nat), (rowsG (rows.take i)).length ≤ (rowsG (rows.take (i + k))).length
  | 0 => Nat.le_refl _
  | k + 1 => by
    refine Nat.le_trans (rowsG_prefix k) ?_
    rw [← Nat.add_assoc]
    cases h : rows[i + k]? with
    | none =>
      have hl := List.getElem?_eq_none_iff.1 h
      rw [List.take_of_length_le hl, List.take_of_length_le (by omega)]
      exact Nat.le_refl _
    | some row =>
      rw [rowsG_take h, List.length_append]
      exact Nat.le_add_right _ _

theorem rowsG_le {rows : List (List Tok)} (i : Nat) : (rowsG (rows.take i)).length ≤ (rowsG rows).length := by
  have := rowsG_prefix (rows := rows) (i := i) rows.length
  rwa [List.take_of_length_le (show rows.length ≤ i + rows.length by omega)] at this

/-! ### How long -/

theorem marksP_fit {L : Nat} : ∀ (p : Pt) (q : List Tok) (p' : Pt), marksP p q = some p' → (p.tag.length ≤ L ∧ p.id.length ≤ L ∧ ∀ s ∈ p.bs, s.length ≤ L) → (∀ x ∈ q, x.t.length ≤ L) → (p'.tag.length ≤ L ∧ p'.id.length ≤ L ∧ ∀ s ∈ p'.bs, s.length ≤ L) ∧ p'.bs.length ≤ p.bs.length + q.length
  | p, [], p', h, hp, _ => by
    injection h with h; subst h
    exact ⟨hp, Nat.le_add_right _ _⟩
  | p, [a], p', h, _, _ => by cases h
  | p, a :: b :: r, p', h, hp, hq => by
    have h' : (match withMark p [a, b] with
      | some q => marksP q r
      | none => none) = some p' := h
    cases hw : withMark p [a, b] with
    | none => rw [hw] at h'; cases h'
    | some p1 =>
      rw [hw] at h'
      have hb := hq b (by simp)
      have h1 : p1.tag.length ≤ L ∧ p1.id.length ≤ L ∧ ∀ s ∈ p1.bs, s.length ≤ L := by
        rw [withMark_two] at hw
        repeat' split at hw
        all_goals first
          | (cases hw; done)
          | (injection hw with hw; subst hw; exact ⟨hp.1, hb, hp.2.2⟩)
          | (injection hw with hw; subst hw; exact ⟨hp.1, hp.2.1, fun s hs => by
              rcases List.mem_append.1 hs with hs | hs
              · exact hp.2.2 s hs
              · obtain rfl : s = b.t := by simpa using hs
                exact hb⟩)
      have h2 := withMark_bs hw
      obtain ⟨h3, h4⟩ := marksP_fit p1 r p' h' h1 (fun x hx => hq x (by simp [hx]))
      refine ⟨h3, ?_⟩
      simp only [List.length_cons]
      omega

theorem rising_len (bs : List (List UInt8)) : (rising bs).length ≤ bs.length := by
  unfold rising
  have := comp_len (bs.mergeSort leB)
  rwa [List.length_mergeSort] at this

theorem readP_fits {q : List Tok} {n : Bool} {u : Value} (hf : ∀ x ∈ q, x.t.length ≤ 1048576) (hl : q.length ≤ 1048576) : Fits ⟨part10 n q, u⟩ := by
  unfold part10 readP
  cases hm : marksP ⟨tagOf q, [], [], false⟩ (restOf q) with
  | none => exact ⟨by simp [Pt.zero], by simp [Pt.zero], by simp [Pt.zero], fun s hs => by cases hs⟩
  | some p =>
    obtain ⟨⟨h1, h2, h3⟩, h4⟩ := marksP_fit (L := 1048576) _ _ _ hm ⟨tag_fit hf, by simp, fun s hs => by cases hs⟩ (fun x hx => hf x ((restOf_sub q).2 x hx))
    have h5 := (restOf_sub q).1
    have h6 := rising_len p.bs
    simp only [List.length_nil] at h4
    refine ⟨h1, h2, ?_, fun s hs => h3 s (rising_mem.1 hs)⟩
    show (rising p.bs).length ≤ _
    omega

theorem flat_one : ∀ (vs : List Value), (vs.map fun v => [v]).flatten = vs
  | [] => rfl
  | v :: r => by
    show [v] ++ (r.map fun v => [v]).flatten = _
    rw [flat_one r]; rfl

/-- A cell of a row of the call's own whose elements are one cell each. -/
theorem own_cell1 {W : World} {B e n g c i : Nat} {vs : List Value} {p : Value} (h : W.ownsRow B e 1 (.slice (some ⟨g, 0, none⟩) n c) n vs) (hn : vs.length = n) (hi : vs[i]? = some p) : W.cell? ⟨g, i, none⟩ = some p := by
  have ef := flat_one vs
  have ho : RC.Own e 1 W (.slice (some ⟨g, 0, none⟩) n c) B (vs.map fun v => [v]) := ⟨by rw [List.length_map, hn, ef]; exact h, fun r hr => by
    obtain ⟨v, _, rfl⟩ := List.mem_map.1 hr
    rfl⟩
  rcases ho.row with ⟨e1, _⟩ | ⟨g', cap, e1, _, hr⟩
  · cases e1
  · injection e1 with e2 _ _
    injection e2 with e2
    injection e2 with e2
    subst e2
    have := hr.at.cells i [p] (by rw [List.getElem?_map, hi]; rfl) 0 p rfl
    simpa using this

theorem own_head {W : World} {B e s k n : Nat} {a : Option Addr} {c : Nat} {xs : List Value} (h : W.ownsRow B e s (.slice a k c) n xs) (hn : 0 < n) : ∃ g, a = some ⟨g, 0, none⟩ := by
  rcases h.2 with ⟨e, h0⟩ | ⟨g, cap, cur, e, _⟩
  · omega
  · injection e with e1
    exact ⟨g, e1⟩

/-- What the program reads as parts, right or not. -/
def Guesses (ts : List Tok) (w : World) (e : Ending) (w' : World) : Prop :=
  ∃ r xs, e = .returned r ∧ OwnQ w.heap.size r xs w' ∧ pts xs = guess ts ∧ (∀ x ∈ xs, Fits x) ∧ Below w.heap.size w w'

set_option maxRecDepth 20000 in
set_option maxHeartbeats 8000000 in
theorem guessPick_impl (ts : List Tok) (v : Value) (w : World) (L : Pow w) (h : TokSlc w v ts) (hf : ∀ x ∈ ts, TokFit x) (hs : ts.length ≤ 1048576) :
    Calls Tryz.prog 50 #[v] w (Guesses ts w) := by
  obtain ⟨i0, hi, hz0, hz1, hz2⟩ := info_parts infoPtD
  have HL := Lib.hid L
  have H0 := Lib.hid h
  have HFF := Lib.hid hf
  have HLEN := Lib.hid hs
  have ho1 := ownQ_lit w (B := w.heap.size) (Nat.le_refl _)
  have hB1 : Below w.heap.size w (w.alloc (.cells #[] 37)) := (Below.refl _ _).alloc (Nat.le_refl _) _
  have HPC := Lib.hid (fun (w' : World) (hb : Below w.heap.size w w') => (piecesAt_impl gtT ts v w' (h.on hb) (by omega) : Calls Tryz.prog 96 #[v, .agg #[.int .i64 6, .string ⟨#[62]⟩, .int .i64 0]] w' (PiecesOf gtT ts v w')))
  unfold PiecesOf at HPC
  obtain ⟨av, cv, rfl, _⟩ := h.form
  obtain ⟨nt, hnt⟩ : ∃ nt, ts.length = nt := ⟨_, rfl⟩
  rw [hnt] at HPC H0 ⊢
  clear h hf L hs hnt
  go_enter Tryz.func50, Tryz.ntmps50
  go_wp2_with fail
  refine (sign_impl 62 _).mono ?_
  rintro e w1 ⟨rfl, g1⟩
  have hB1' := hB1.trans (g1.mono hB1.size)
  have ho1' := ho1.on g1
  clear hB1 ho1 g1
  go_wp2_with fail
  refine (HPC.out _ hB1').mono ?_
  rintro e w2 ⟨r1, vs1, rfl, hr1, hall1, g2⟩
  have hB2 := hB1'.trans (g2.mono hB1'.size)
  have ho2 := ho1'.on g2
  have HALL1 := Lib.hid (hall1 w H0.out)
  obtain ⟨n1, hn1⟩ : ∃ n1, vs1.length = n1 := ⟨_, rfl⟩
  have HN1 := Lib.hid hn1
  rw [hn1] at hr1
  have hrw : n1 = (splitT gtT ts).length := by rw [← hn1]; exact HALL1.out.1
  have HRW := Lib.hid hrw
  obtain ⟨a1, c1, rfl⟩ := own_formV hr1
  have HR1 := Lib.hid (own_baseA hr1 hB1'.size)
  clear hr1 hall1 g2 hB1' ho1' HPC hn1 hrw
  go_wp2_with fail
  go_loopg [3, 14] n1 (fun kx s3 s14 wr => ∃ (i : Nat) (xs : List Pv), s14 = .int .i64 (i : Int) ∧ kx + i = n1 ∧ OwnQ w.heap.size s3 xs wr ∧ Hid (pts xs = rowsG ((splitT gtT ts).take i)) ∧ Hid (∀ x ∈ xs, Fits x) ∧ Hid (wr.ownsRow w.heap.size 27 1 (.slice a1 n1 c1) n1 vs1) ∧ Below w.heap.size w wr)
  case atStart => exact ⟨0, [], rfl, by omega, ho2, Lib.hid rfl, Lib.hid (fun x hx => by cases hx), HR1, hB2⟩
  case round =>
    obtain ⟨i, xs, rfl, hki, hown, HPX, HF0, HRR, hB⟩ := hrel
    clear ho2 hB2 HR1
    obtain ⟨a3, c3, rfl⟩ := hown.form
    by_cases hlt : i < n1
    · have hlt' : (i : Int) < (n1 : Int) := by omega
      have i0' : (0 : Int) ≤ (i : Int) := by omega
      have hn1b : n1 ≤ 1048577 := by have h1 := split_count gtT ts; have h2 := HLEN.out; have h3 := HRW.out; omega
      obtain ⟨row, hrow⟩ : ∃ row, (splitT gtT ts)[i]? = some row := ⟨_, List.getElem?_eq_getElem (by rw [← HRW.out]; exact hlt)⟩
      obtain ⟨p1, hp1⟩ : ∃ p1, vs1[i]? = some p1 := ⟨_, List.getElem?_eq_getElem (by rw [HN1.out]; exact hlt)⟩
      have hts1 := HALL1.out.2 i p1 row hp1 hrow
      obtain ⟨g1, rfl⟩ := own_head HRR.out (by omega)
      have hc1 := own_cell1 HRR.out HN1.out hp1
      have hrm := List.mem_of_getElem? hrow
      have hrl : row.length ≤ 1048576 := Nat.le_trans (split_piece hrm) HLEN.out
      have HROW := Lib.hid hrow
      have HRF := Lib.hid (fun x (hx : x ∈ row) => HFF.out x (split_mem hrm x hx))
      have HSQ := Lib.hid (Squeezed_implP row p1 wr (HL.out.on hB) (hts1.on hB) HRF.out (by omega))
      unfold Squeezes at HSQ
      have hsl := squeezedP_len row
      have HSM := Lib.hid (fun x (hx : x ∈ squeezedP row) => HRF.out x (squeezedP_mem hx))
      have HPS := Lib.hid (fun (j : Nat) (q : List Tok) (n : Bool) (hq : (splitT spT (squeezedP row))[j]? = some q) => rowParts_at (n := n) hq)
      have HRL := Lib.hid (fun (n : Bool) => rowParts_len n row)
      have HRT := Lib.hid (rowsG_take hrow)
      have hgl := rowsG_le (rows := splitT gtT ts) (i + 1)
      rw [← guess_rows] at hgl
      have hgl2 := guess_len ts
      obtain ⟨S, eS⟩ : ∃ S, squeezedP row = S := ⟨_, rfl⟩
      rw [eS] at HSQ hsl HSM HPS HRL
      have HGL := Lib.hid (show (rowsG ((splitT gtT ts).take (i + 1))).length ≤ 1048577 by have := HLEN.out; omega)
      have HSL := Lib.hid (show S.length ≤ 1048576 by omega)
      obtain ⟨ap, cp, rfl, _⟩ := hts1.form
      obtain ⟨b0, eb0⟩ : ∃ b0, decide (0 < (rowsG ((splitT gtT ts).take i)).length) = b0 := ⟨_, rfl⟩
      rw [eb0] at HRT
      have HB0 := Lib.hid eb0
      have HO := Lib.hid hown
      clear hts1 hrm hrow hp1 hrl hsl eS eb0 hown hgl hgl2
      go_wp2_with fail
      refine HSQ.out.mono ?_
      rintro e w3 ⟨u, rfl, hu, g3⟩
      have HPC2 := Lib.hid (piecesAt_impl spT S u w3 (Toks.val hu).slc (by have := HSL.out; omega) : Calls Tryz.prog 96 #[u, .agg #[.int .i64 5, .string ⟨#[]⟩, .int .i64 0]] w3 (PiecesOf spT S u w3))
      unfold PiecesOf at HPC2
      obtain ⟨au, cu, rfl⟩ := own_formV hu
      have hB3 := hB.trans (g3.mono hB.size)
      have hO3 := HO.out.on g3
      have hR3 := own_below HRR.out g3
      go_wp2_with fail
      refine HPC2.out.mono ?_
      rintro e w4 ⟨r2, vs2, rfl, hr2, hall2, g4⟩
      have hB4 := hB3.trans (g4.mono hB3.size)
      have hO4 := hO3.on g4
      have HR4 := Lib.hid (own_below hR3 g4)
      have HT4 := Lib.hid (own_baseA (own_below hu g4) hB.size)
      have HA2 := Lib.hid hall2
      have hl2 := (hall2 w3 (Toks.val hu).slc).1
      obtain ⟨n2, hn2⟩ : ∃ n2, vs2.length = n2 := ⟨_, rfl⟩
      have HN2 := Lib.hid hn2
      rw [hn2] at hr2 hl2
      have HL2 := Lib.hid hl2
      obtain ⟨a2, c2, rfl⟩ := own_formV hr2
      have HQ4 := Lib.hid (own_baseA hr2 hB3.size)
      have HPX4 := Lib.hid (show pts xs = rowsG ((splitT gtT ts).take i) ++ (rowParts b0 row).take 0 by rw [HPX.out]; simp)
      clear hr2 hall2 g4 hu g3 hO3 hR3 HPC2 hB3 hB hl2 hn2 hc1
      go_wp2_with fail
      go_loopg [3, 23] n2 (fun kx s3 s23 wr => ∃ (j : Nat) (ys : List Pv), s23 = .int .i64 (j : Int) ∧ kx + j = n2 ∧ OwnQ w.heap.size s3 ys wr ∧ Hid (pts ys = rowsG ((splitT gtT ts).take i) ++ (rowParts b0 row).take j) ∧ Hid (∀ x ∈ ys, Fits x) ∧ Hid (wr.ownsRow w.heap.size 27 1 (.slice (some ⟨g1, 0, none⟩) n1 c1) n1 vs1) ∧ Hid (Toks wr (.slice au S.length cu) w.heap.size S) ∧ Hid (wr.ownsRow w.heap.size 27 1 (.slice a2 n2 c2) n2 vs2) ∧ Below w.heap.size w wr)
      case atStart => exact ⟨0, xs, rfl, by omega, hO4, HPX4, HF0, HR4, HT4, HQ4, hB4⟩
      case round =>
        obtain ⟨j, ys, rfl, hkj, hown, HPY, HF, HR, HT, HQ, hB⟩ := hrel
        clear hO4 HR4 HT4 HQ4 hB4 HPX4
        obtain ⟨a4, c4, rfl⟩ := hown.form
        obtain ⟨d, hd⟩ : ∃ d, ys.length = d := ⟨_, rfl⟩
        have HD := Lib.hid hd
        rw [hd] at hown ⊢
        have HO2 := Lib.hid hown
        have hdl : d ≤ 1048577 := by
          have h1 : (pts ys).length = d := by rw [← hd]; simp [pts]
          have h2 := HGL.out
          rw [HRT.out, List.length_append] at h2
          rw [HPY.out, List.length_append, List.length_take] at h1
          omega
        clear hown hd
        by_cases hlj : j < n2
        · have hlj' : (j : Int) < (n2 : Int) := by omega
          have j0' : (0 : Int) ≤ (j : Int) := by omega
          have hn2b : n2 ≤ 1048577 := by have h1 := split_count spT S; have h2 := HSL.out; have h3 := HL2.out; omega
          obtain ⟨q, hq⟩ : ∃ q, (splitT spT S)[j]? = some q := ⟨_, List.getElem?_eq_getElem (by rw [← HL2.out]; exact hlj)⟩
          obtain ⟨p2, hp2⟩ : ∃ p2, vs2[j]? = some p2 := ⟨_, List.getElem?_eq_getElem (by rw [HN2.out]; exact hlj)⟩
          have hts2 := (HA2.out wr (Toks.val HT.out).slc).2 j p2 q hp2 hq
          obtain ⟨g2, rfl⟩ := own_head HQ.out (by omega)
          have hc2 := own_cell1 HQ.out HN2.out hp2
          have hqm := List.mem_of_getElem? hq
          have hql : q.length ≤ 1048576 := Nat.le_trans (split_piece hqm) HSL.out
          have HRP := Lib.hid (readPart_impl q p2 wr hts2 hql)
          unfold PartIs at HRP
          have HFT := Lib.hid (fun (n : Bool) (u : Value) => readP_fits (n := n) (u := u) (fun x hx => (HSM.out x (split_mem hqm x hx)).2.2) hql)
          have HPA := Lib.hid (HPS.out j q b0 hq)
          obtain ⟨aq, cq, rfl, _⟩ := hts2.form
          clear hts2 hqm hq hp2 hql
          go_wp2_with fail
          refine HRP.out.mono ?_
          rintro e w5 ⟨⟨⟨tg, idp, bs, nr0⟩, uu⟩, rfl, hy, hw5, g5⟩
          dsimp only at hy hw5
          obtain ⟨w6, hst6, hl6, g6⟩ := pt_laid (x := ⟨⟨tg, idp, bs, nr0⟩, uu⟩) (Words.slc hw5)
          obtain ⟨ab, cb, rfl⟩ := words_shapeA hw5
          have HST6 := Lib.hid hst6
          have hB5 := hB.trans (g5.mono hB.size)
          have hB6 := hB5.trans (g6.mono hB5.size)
          have hO5 := HO2.out.on g5
          have hO6 := hO5.on g6
          have hR5 := own_below HR.out g5
          have hR6 := own_below hR5 g6
          have hT5 := own_below HT.out g5
          have hT6 := own_below hT5 g6
          have hQ5 := own_below HQ.out g5
          have hQ6 := own_below hQ5 g6
          have HAP := Lib.hid (fun (y : Pv) (hy : y ∈ ys) => late_apart (HO2.out.hs y hy) hw5)
          have hX6 := own_baseA (own_below hw5 g6) hB.size
          have hnu := own_new hw5 (Nat.le_refl w5.heap.size)
          have HY := Lib.hid hy
          have HY2 := Lib.hid (show ∀ n, part10 n q = ⟨tg, idp, bs, n⟩ from fun n => by unfold part10; rw [← HY.out])
          have HPT := Lib.hid (fun (n : Bool) (hn : n = (decide (j = 0) && b0)) => (show pts (ys ++ [⟨⟨tg, idp, bs, n⟩, .slice ab bs.length cb⟩]) = rowsG ((splitT gtT ts).take i) ++ (rowParts b0 row).take (j + 1) by
            rw [List.take_add_one, HPA.out, ← List.append_assoc, ← HPY.out, HY2.out, hn]
            simp [pts]))
          obtain ⟨d3, f3⟩ := hl6.2 3 _ rfl
          have HDJ := Lib.hid (show j = 0 → b0 = decide (0 < d) from fun hj => by
            have h1 : (pts ys).length = d := by rw [← HD.out]; simp [pts]
            rw [HPY.out, hj] at h1
            simp at h1
            rw [← HB0.out, h1])
          clear hst6 hy g6 g5 HRP hc2
          by_cases hj : j = 0
          · have hj' : ((j : Int) == 0) = true := by simp [hj]
            by_cases hd0 : 0 < d
            · have HNB := Lib.hid (show true = (decide (j = 0) && b0) by rw [HDJ.out hj, decide_eq_true hj, decide_eq_true hd0]; rfl)
              clear hj
              have hl7 := near_set (q := true) hl6
              have hO7 := OwnQ.new hO5 (Nat.le_refl _) hO6 (only_set w6 w5.heap.size 3 (.bool true))
              have hR7 := own_otherA hR6 (only_set w6 w5.heap.size 3 (.bool true)) (own_new hR5 (Nat.le_refl _))
              have hT7 := own_otherA hT6 (only_set w6 w5.heap.size 3 (.bool true)) (own_new hT5 (Nat.le_refl _))
              have hQ7 := own_otherA hQ6 (only_set w6 w5.heap.size 3 (.bool true)) (own_new hQ5 (Nat.le_refl _))
              have hX7 := own_otherA hX6 (only_set w6 w5.heap.size 3 (.bool true)) hnu
              have hB7 := hB6.trans ((only_set w6 w5.heap.size 3 (.bool true)).below (B := w.heap.size) hB5.size hB6.size)
              unfold ptL at hl7
              dsimp only at hl7
              have HL7 := Lib.hid (load_blk (P := Tryz.prog) (ty := 37) hl7 pt_wide)
              have hO8 := hO7.on ((Below.refl _ _).alloc (Nat.le_refl _) (.cells #[.string ⟨tg.toArray⟩, .string ⟨idp.toArray⟩, .slice ab bs.length cb, .bool true] 37))
              have HR8 := Lib.hid (World.ownsRow.alloc hR7 (.cells #[.string ⟨tg.toArray⟩, .string ⟨idp.toArray⟩, .slice ab bs.length cb, .bool true] 37))
              have HT8 := Lib.hid (World.ownsRow.alloc hT7 (.cells #[.string ⟨tg.toArray⟩, .string ⟨idp.toArray⟩, .slice ab bs.length cb, .bool true] 37))
              have HQ8 := Lib.hid (World.ownsRow.alloc hQ7 (.cells #[.string ⟨tg.toArray⟩, .string ⟨idp.toArray⟩, .slice ab bs.length cb, .bool true] 37))
              have HX8 := Lib.hid (World.ownsRow.alloc hX7 (.cells #[.string ⟨tg.toArray⟩, .string ⟨idp.toArray⟩, .slice ab bs.length cb, .bool true] 37))
              have HB8 := Lib.hid (hB7.alloc hB7.size (.cells #[.string ⟨tg.toArray⟩, .string ⟨idp.toArray⟩, .slice ab bs.length cb, .bool true] 37))
              have HO8 := Lib.hid hO8
              have hown8 := hO8.own
              rw [HD.out] at hown8
              have HOW := Lib.hid hown8
              have HSZ := Lib.hid HB8.out.size
              clear hO5 hO6 hO7 hO8 hT5 hT6 hT7 hR5 hR6 hR7 hQ5 hQ6 hQ7 hX6 hX7 hB7 hown8 hl6 hl7 hnu hw5
              go_wp2_with (first | ((with_reducible refine wp_store_at HST6.out ?_ ?_); exact And.intro rfl (And.intro rfl (And.intro rfl rfl))) | ((with_reducible refine wp_load_at HL7.out ?_ ?_); exact And.intro rfl (And.intro rfl rfl)) | (at_builtin; go_loud (refine wpList_append_own _ rfl _ _ 24 rfl w.heap.size 37 i0 _ 4 64 Tryz.underlying24 hi hz0 hz1 hz2 rfl (by decide) _ d (ptRs ys).flatten rfl HOW.out _ 1 1 [.string ⟨tg.toArray⟩, .string ⟨idp.toArray⟩, .slice ab bs.length cb, .bool true] rfl rfl (news_ofS _ _ _ [.string ⟨tg.toArray⟩, .string ⟨idp.toArray⟩, .slice ab bs.length cb, .bool true] 37) (by simp [Value.oneCell']) (by unfold maxLen; omega) (by omega) HSZ.out ?_; intro v9 w9 hown9 hgrow9 _)))
              go_roundg (n2 - (j + 1))
              case measure => omega
              case rel => exact ⟨j + 1, ys ++ [⟨⟨tg, idp, bs, true⟩, .slice ab bs.length cb⟩], by go_num, by omega, ownQ_snoc (X := ⟨⟨tg, idp, bs, true⟩, .slice ab bs.length cb⟩) HO8.out HX8.out HAP.out (by rw [HD.out]; exact hown9) hgrow9, Lib.hid (HPT.out _ HNB.out), Lib.hid (fun y hy => by
                rcases List.mem_append.1 hy with hy | hy
                · exact HF.out y hy
                · obtain rfl : y = ⟨⟨tg, idp, bs, true⟩, .slice ab bs.length cb⟩ := by simpa using hy
                  have := HFT.out true (.slice ab bs.length cb)
                  rw [HY2.out] at this
                  exact this), Lib.hid (row_grown (by decide) HR8.out HO8.out.own hgrow9), Lib.hid (row_grown (by decide) HT8.out HO8.out.own hgrow9), Lib.hid (row_grown (by decide) HQ8.out HO8.out.own hgrow9), HB8.out.grown hgrow9 HSZ.out (fun k' hk' => (World.ownsRow.lt HO8.out.own k' hk').1)⟩
            · have HNB := Lib.hid (show false = (decide (j = 0) && b0) by rw [HDJ.out hj, decide_eq_true hj, decide_eq_false hd0]; rfl)
              clear hj
              have hl7 := near_set (q := false) hl6
              have hO7 := OwnQ.new hO5 (Nat.le_refl _) hO6 (only_set w6 w5.heap.size 3 (.bool false))
              have hR7 := own_otherA hR6 (only_set w6 w5.heap.size 3 (.bool false)) (own_new hR5 (Nat.le_refl _))
              have hT7 := own_otherA hT6 (only_set w6 w5.heap.size 3 (.bool false)) (own_new hT5 (Nat.le_refl _))
              have hQ7 := own_otherA hQ6 (only_set w6 w5.heap.size 3 (.bool false)) (own_new hQ5 (Nat.le_refl _))
              have hX7 := own_otherA hX6 (only_set w6 w5.heap.size 3 (.bool false)) hnu
              have hB7 := hB6.trans ((only_set w6 w5.heap.size 3 (.bool false)).below (B := w.heap.size) hB5.size hB6.size)
              unfold ptL at hl7
              dsimp only at hl7
              have HL7 := Lib.hid (load_blk (P := Tryz.prog) (ty := 37) hl7 pt_wide)
              have hO8 := hO7.on ((Below.refl _ _).alloc (Nat.le_refl _) (.cells #[.string ⟨tg.toArray⟩, .string ⟨idp.toArray⟩, .slice ab bs.length cb, .bool false] 37))
              have HR8 := Lib.hid (World.ownsRow.alloc hR7 (.cells #[.string ⟨tg.toArray⟩, .string ⟨idp.toArray⟩, .slice ab bs.length cb, .bool false] 37))
              have HT8 := Lib.hid (World.ownsRow.alloc hT7 (.cells #[.string ⟨tg.toArray⟩, .string ⟨idp.toArray⟩, .slice ab bs.length cb, .bool false] 37))
              have HQ8 := Lib.hid (World.ownsRow.alloc hQ7 (.cells #[.string ⟨tg.toArray⟩, .string ⟨idp.toArray⟩, .slice ab bs.length cb, .bool false] 37))
              have HX8 := Lib.hid (World.ownsRow.alloc hX7 (.cells #[.string ⟨tg.toArray⟩, .string ⟨idp.toArray⟩, .slice ab bs.length cb, .bool false] 37))
              have HB8 := Lib.hid (hB7.alloc hB7.size (.cells #[.string ⟨tg.toArray⟩, .string ⟨idp.toArray⟩, .slice ab bs.length cb, .bool false] 37))
              have HO8 := Lib.hid hO8
              have hown8 := hO8.own
              rw [HD.out] at hown8
              have HOW := Lib.hid hown8
              have HSZ := Lib.hid HB8.out.size
              clear hO5 hO6 hO7 hO8 hT5 hT6 hT7 hR5 hR6 hR7 hQ5 hQ6 hQ7 hX6 hX7 hB7 hown8 hl6 hl7 hnu hw5
              go_wp2_with (first | ((with_reducible refine wp_store_at HST6.out ?_ ?_); exact And.intro rfl (And.intro rfl (And.intro rfl rfl))) | ((with_reducible refine wp_load_at HL7.out ?_ ?_); exact And.intro rfl (And.intro rfl rfl)) | (at_builtin; go_loud (refine wpList_append_own _ rfl _ _ 24 rfl w.heap.size 37 i0 _ 4 64 Tryz.underlying24 hi hz0 hz1 hz2 rfl (by decide) _ d (ptRs ys).flatten rfl HOW.out _ 1 1 [.string ⟨tg.toArray⟩, .string ⟨idp.toArray⟩, .slice ab bs.length cb, .bool false] rfl rfl (news_ofS _ _ _ [.string ⟨tg.toArray⟩, .string ⟨idp.toArray⟩, .slice ab bs.length cb, .bool false] 37) (by simp [Value.oneCell']) (by unfold maxLen; omega) (by omega) HSZ.out ?_; intro v9 w9 hown9 hgrow9 _)))
              go_roundg (n2 - (j + 1))
              case measure => omega
              case rel => exact ⟨j + 1, ys ++ [⟨⟨tg, idp, bs, false⟩, .slice ab bs.length cb⟩], by go_num, by omega, ownQ_snoc (X := ⟨⟨tg, idp, bs, false⟩, .slice ab bs.length cb⟩) HO8.out HX8.out HAP.out (by rw [HD.out]; exact hown9) hgrow9, Lib.hid (HPT.out _ HNB.out), Lib.hid (fun y hy => by
                rcases List.mem_append.1 hy with hy | hy
                · exact HF.out y hy
                · obtain rfl : y = ⟨⟨tg, idp, bs, false⟩, .slice ab bs.length cb⟩ := by simpa using hy
                  have := HFT.out false (.slice ab bs.length cb)
                  rw [HY2.out] at this
                  exact this), Lib.hid (row_grown (by decide) HR8.out HO8.out.own hgrow9), Lib.hid (row_grown (by decide) HT8.out HO8.out.own hgrow9), Lib.hid (row_grown (by decide) HQ8.out HO8.out.own hgrow9), HB8.out.grown hgrow9 HSZ.out (fun k' hk' => (World.ownsRow.lt HO8.out.own k' hk').1)⟩
          · have hj' : ((j : Int) == 0) = false := by simp [hj]
            · have HNB := Lib.hid (show false = (decide (j = 0) && b0) by rw [decide_eq_false hj]; rfl)
              clear hj
              have hl7 := near_set (q := false) hl6
              have hO7 := OwnQ.new hO5 (Nat.le_refl _) hO6 (only_set w6 w5.heap.size 3 (.bool false))
              have hR7 := own_otherA hR6 (only_set w6 w5.heap.size 3 (.bool false)) (own_new hR5 (Nat.le_refl _))
              have hT7 := own_otherA hT6 (only_set w6 w5.heap.size 3 (.bool false)) (own_new hT5 (Nat.le_refl _))
              have hQ7 := own_otherA hQ6 (only_set w6 w5.heap.size 3 (.bool false)) (own_new hQ5 (Nat.le_refl _))
              have hX7 := own_otherA hX6 (only_set w6 w5.heap.size 3 (.bool false)) hnu
              have hB7 := hB6.trans ((only_set w6 w5.heap.size 3 (.bool false)).below (B := w.heap.size) hB5.size hB6.size)
              unfold ptL at hl7
              dsimp only at hl7
              have HL7 := Lib.hid (load_blk (P := Tryz.prog) (ty := 37) hl7 pt_wide)
              have hO8 := hO7.on ((Below.refl _ _).alloc (Nat.le_refl _) (.cells #[.string ⟨tg.toArray⟩, .string ⟨idp.toArray⟩, .slice ab bs.length cb, .bool false] 37))
              have HR8 := Lib.hid (World.ownsRow.alloc hR7 (.cells #[.string ⟨tg.toArray⟩, .string ⟨idp.toArray⟩, .slice ab bs.length cb, .bool false] 37))
              have HT8 := Lib.hid (World.ownsRow.alloc hT7 (.cells #[.string ⟨tg.toArray⟩, .string ⟨idp.toArray⟩, .slice ab bs.length cb, .bool false] 37))
              have HQ8 := Lib.hid (World.ownsRow.alloc hQ7 (.cells #[.string ⟨tg.toArray⟩, .string ⟨idp.toArray⟩, .slice ab bs.length cb, .bool false] 37))
              have HX8 := Lib.hid (World.ownsRow.alloc hX7 (.cells #[.string ⟨tg.toArray⟩, .string ⟨idp.toArray⟩, .slice ab bs.length cb, .bool false] 37))
              have HB8 := Lib.hid (hB7.alloc hB7.size (.cells #[.string ⟨tg.toArray⟩, .string ⟨idp.toArray⟩, .slice ab bs.length cb, .bool false] 37))
              have HO8 := Lib.hid hO8
              have hown8 := hO8.own
              rw [HD.out] at hown8
              have HOW := Lib.hid hown8
              have HSZ := Lib.hid HB8.out.size
              clear hO5 hO6 hO7 hO8 hT5 hT6 hT7 hR5 hR6 hR7 hQ5 hQ6 hQ7 hX6 hX7 hB7 hown8 hl6 hl7 hnu hw5
              go_wp2_with (first | ((with_reducible refine wp_store_at HST6.out ?_ ?_); exact And.intro rfl (And.intro rfl (And.intro rfl rfl))) | ((with_reducible refine wp_load_at HL7.out ?_ ?_); exact And.intro rfl (And.intro rfl rfl)) | (at_builtin; go_loud (refine wpList_append_own _ rfl _ _ 24 rfl w.heap.size 37 i0 _ 4 64 Tryz.underlying24 hi hz0 hz1 hz2 rfl (by decide) _ d (ptRs ys).flatten rfl HOW.out _ 1 1 [.string ⟨tg.toArray⟩, .string ⟨idp.toArray⟩, .slice ab bs.length cb, .bool false] rfl rfl (news_ofS _ _ _ [.string ⟨tg.toArray⟩, .string ⟨idp.toArray⟩, .slice ab bs.length cb, .bool false] 37) (by simp [Value.oneCell']) (by unfold maxLen; omega) (by omega) HSZ.out ?_; intro v9 w9 hown9 hgrow9 _)))
              go_roundg (n2 - (j + 1))
              case measure => omega
              case rel => exact ⟨j + 1, ys ++ [⟨⟨tg, idp, bs, false⟩, .slice ab bs.length cb⟩], by go_num, by omega, ownQ_snoc (X := ⟨⟨tg, idp, bs, false⟩, .slice ab bs.length cb⟩) HO8.out HX8.out HAP.out (by rw [HD.out]; exact hown9) hgrow9, Lib.hid (HPT.out _ HNB.out), Lib.hid (fun y hy => by
                rcases List.mem_append.1 hy with hy | hy
                · exact HF.out y hy
                · obtain rfl : y = ⟨⟨tg, idp, bs, false⟩, .slice ab bs.length cb⟩ := by simpa using hy
                  have := HFT.out false (.slice ab bs.length cb)
                  rw [HY2.out] at this
                  exact this), Lib.hid (row_grown (by decide) HR8.out HO8.out.own hgrow9), Lib.hid (row_grown (by decide) HT8.out HO8.out.own hgrow9), Lib.hid (row_grown (by decide) HQ8.out HO8.out.own hgrow9), HB8.out.grown hgrow9 HSZ.out (fun k' hk' => (World.ownsRow.lt HO8.out.own k' hk').1)⟩
        · have hlj' : ¬ (j : Int) < (n2 : Int) := by omega
          have HPZ := Lib.hid (show pts ys = rowsG ((splitT gtT ts).take (i + 1)) by
            rw [HPY.out, HRT.out, List.take_of_length_le (l := rowParts b0 row) (by rw [HRL.out, ← HL2.out]; omega)])
          go_wp2_with fail
          go_roundg (n1 - (i + 1))
          case measure => omega
          case rel => exact ⟨i + 1, ys, by go_num, by omega, HO2.out, HPZ, HF, HR, hB⟩
    · have hlt' : ¬ (i : Int) < (n1 : Int) := by omega
      have HPZ := Lib.hid (show pts xs = guess ts by
        rw [HPX.out, List.take_of_length_le (by rw [← HRW.out]; omega)]; rfl)
      go_wp2_with fail
      go_ret
      exact ⟨_, xs, rfl, hown, HPZ.out, HF0.out, hB⟩

end Go.Proofs.YtliihnkonakacaaGreatDoor.B10
