/- Chapter 9 of the reference: l9Piece, l9Read, ReadNotes. -/
import Derived.Test.YtliihnkonakacaaGreatDoorRead9f
import Derived.Test.YtliihnkonakacaaGreatDoorBase6f
import Derived.Test.YtliihnkonakacaaGreatDoorImp5i
import Derived.Deep.DeepCutAuto
import Derived.Deep.CutBlock
namespace Go.Proofs.YtliihnkonakacaaGreatDoor.B9
open Go.Proofs.YtliihnkonakacaaGreatDoor.P1 Go.Proofs.YtliihnkonakacaaGreatDoor.B1 Go.Proofs.YtliihnkonakacaaGreatDoor.B2 Go.Proofs.YtliihnkonakacaaGreatDoor.T1 Go.Proofs.YtliihnkonakacaaGreatDoor.BT Go.Proofs.YtliihnkonakacaaGreatDoor.P5 Go.Proofs.YtliihnkonakacaaGreatDoor.P6 Go.Proofs.YtliihnkonakacaaGreatDoor.P8 Go.Proofs.YtliihnkonakacaaGreatDoor.P9 Go.Proofs.YtliihnkonakacaaGreatDoor.B5 Go.Proofs.YtliihnkonakacaaGreatDoor.B6 Go.Proofs.YtliihnkonakacaaGreatDoor.V6 Go.Proofs.YtliihnkonakacaaGreatDoor.B8 Go.Proofs.YtliihnkonakacaaGreatDoor.D1 Go.Proofs.YtliihnkonakacaaGreatDoor.W8 Go.Proofs.YtliihnkonakacaaGreatDoor.RC Go.Proofs.YtliihnkonakacaaGreatDoor.RI Go.Proofs.YtliihnkonakacaaGreatDoor.S7
open Go.ChangeShapes Go.WideShapes Go.ChangeAt Go.RowKit
set_option linter.unusedVariables false

theorem wpList_bare9 {P : Program} {ops : Array Oper} {Q : Exit → Act → World → Prop} {a : Act} {w : World} {rest : List Oper} {o : Oper}
    (hw : Region.wanted o (yielded ops a.tmps) = true) (h : wpList P ops Q ({ o with guard := none } :: rest) a w) : wpList P ops Q (o :: rest) a w := by
  simp only [wpList] at h ⊢
  rw [if_pos hw]
  rw [if_pos (by simp [Region.wanted])] at h
  exact h

theorem piece_short {ts S : List Tok} (hS : squeeze ts = S) (h : S.length < 2) : piece ts = none := by
  unfold piece
  rw [hS]
  match S, h with
  | [], _ => rfl
  | [_], _ => rfl

theorem piece_kind {ts r : List Tok} {a b : Tok} (hS : squeeze ts = a :: b :: r) (hk : a.k ≠ 1) : piece ts = none := by
  unfold piece
  rw [hS]
  show (if a.k = 1 then _ else none) = none
  rw [if_neg hk]

theorem piece_at {ts r S : List Tok} {a b : Tok} {J : Nat} (hS : squeeze ts = a :: b :: r) (hk : a.k = 1) (hJ : J = if b.k = 5 then 2 else 1) (eS : a :: b :: r = S) : piece ts = afterName a (S.drop J) := by
  unfold piece
  rw [hS]
  show (if a.k = 1 then afterName a (if b.k = 5 then r else b :: r) else none) = _
  rw [if_pos hk, hJ, ← eS]
  split <;> rfl

theorem after_end {S : List Tok} {J : Nat} {a : Tok} (h : S.length ≤ J) : afterName a (S.drop J) = none := by
  rw [List.drop_of_length_le h]; rfl

theorem after_at {S : List Tok} {J : Nat} {a x : Tok} (hx : S[J]? = some x) : afterName a (S.drop J) = if signIs x 58 = true then noteOf a (S.drop (J + 1)) else none := by
  obtain ⟨h1, e1⟩ := List.getElem?_eq_some_iff.1 hx
  rw [List.drop_eq_getElem_cons h1, e1]
  rfl

theorem drop_at {q : List Tok} {i : Nat} {x : Tok} (hx : q[i]? = some x) : q.drop i = x :: q.drop (i + 1) := by
  obtain ⟨h1, e1⟩ := List.getElem?_eq_some_iff.1 hx
  rw [List.drop_eq_getElem_cons h1, e1]

theorem bang_cons (x : Tok) (r : List Tok) : bang (x :: r) = if signIs x 33 = true then (match r with
      | [y] => if y.k = 1 ∧ y.t = strongN then some ([], true) else none
      | _ => none)
    else (bang r).map fun ps => (x :: ps.1, ps.2) := by rfl

theorem bang_first (q : List Tok) : bang q = (bang (q.drop 0)).map fun ps => (q.take 0 ++ ps.1, ps.2) := by
  rw [List.drop_zero]
  cases bang q <;> simp

theorem bang_next {q : List Tok} {i : Nat} {x : Tok} (hx : q[i]? = some x) (h : signIs x 33 = false) (hi : bang q = (bang (q.drop i)).map fun ps => (q.take i ++ ps.1, ps.2)) : bang q = (bang (q.drop (i + 1))).map fun ps => (q.take (i + 1) ++ ps.1, ps.2) := by
  rw [hi, drop_at hx]
  have e : bang (x :: q.drop (i + 1)) = (bang (q.drop (i + 1))).map fun ps => (x :: ps.1, ps.2) := by
    rw [bang_cons, if_neg (by rw [h]; decide)]
  rw [e, Option.map_map, List.take_add_one, hx]
  cases bang (q.drop (i + 1)) <;> simp

theorem bang_last {q : List Tok} {i : Nat} (h : q.length ≤ i) (hi : bang q = (bang (q.drop i)).map fun ps => (q.take i ++ ps.1, ps.2)) : bang q = some (q, false) := by
  rw [hi, List.drop_of_length_le h, List.take_of_length_le h]
  simp [bang]

theorem bang_none {q : List Tok} {i : Nat} {x : Tok} (hx : q[i]? = some x) (h : signIs x 33 = true) (hi : bang q = (bang (q.drop i)).map fun ps => (q.take i ++ ps.1, ps.2)) (hn : i + 2 ≠ q.length) : bang q = none := by
  have hl : (q.drop (i + 1)).length ≠ 1 := by rw [List.length_drop]; omega
  rw [hi, drop_at hx]
  rw [bang_cons, if_pos h]
  match hd : q.drop (i + 1), hl with
  | [], _ => rfl
  | [y], hl => exact absurd rfl hl
  | _ :: _ :: _, _ => rfl

theorem bang_two {q : List Tok} {i : Nat} {x y : Tok} (hx : q[i]? = some x) (hy : q[i + 1]? = some y) (h : signIs x 33 = true) (hi : bang q = (bang (q.drop i)).map fun ps => (q.take i ++ ps.1, ps.2)) (hn : i + 2 = q.length) : bang q = if y.k = 1 ∧ y.t = strongN then some (q.take i, true) else none := by
  have hd : q.drop (i + 1) = [y] := by
    rw [drop_at hy, List.drop_of_length_le (by omega)]
  rw [hi, drop_at hx, hd]
  rw [bang_cons, if_pos h]
  show (if y.k = 1 ∧ y.t = strongN then some (([] : List Tok), true) else none).map _ = _
  split <;> simp

theorem noteOf_bang {a : Tok} {q : List Tok} (h : bang q = none) : noteOf a q = none := by unfold noteOf; rw [h]
theorem noteOf_not {a : Tok} {q p : List Tok} {s : Bool} (h : bang q = some (p, s)) (hr : readToks p = none) : noteOf a q = none := by unfold noteOf; rw [h]; dsimp only; rw [hr]
theorem noteOf_is {a : Tok} {q p : List Tok} {s : Bool} {v : Va} (h : bang q = some (p, s)) (hr : readToks p = some v) : noteOf a q = if noteOk ⟨lookOf a.t, v, s⟩ = true then some ⟨lookOf a.t, v, s⟩ else none := by unfold noteOf; rw [h]; dsimp only; rw [hr]; rfl

theorem tk9_addr {W : World} {a : Option Addr} {m c B : Nat} {S : List Tok} (h : Toks W (.slice a m c) B S) (hne : S ≠ []) : ∃ g, a = some ⟨g, 0, none⟩ := by
  rcases h.2 with ⟨e, h0⟩ | ⟨g, cap, cur, e, _⟩
  · exact absurd (List.length_eq_zero_iff.1 h0) hne
  · injection e with e1
    exact ⟨g, e1⟩

theorem tk9_cells {W : World} {g m c B k : Nat} {S : List Tok} {x : Tok} (h : Toks W (.slice (some ⟨g, 0, none⟩) m c) B S) (hx : S[k]? = some x) : W.cell? ⟨g, k * 3, none⟩ = some (.int .i64 x.k) ∧ W.cell? ⟨g, k * 3 + 1, none⟩ = some (.string ⟨x.t.toArray⟩) ∧ W.cell? ⟨g, k * 3 + 2, none⟩ = some (.int .i64 x.n) := by
  rcases Toks.val h with ⟨e, _⟩ | ⟨g', cap, e, hr⟩
  · cases e
  · injection e with e1
    injection e1 with e1
    injection e1 with e1
    subst e1
    exact hr.cells k x hx

theorem row_below {w w' : World} {B : Nat} {v : Value} {S : List Tok} (g : Below w.heap.size w w') (h : Toks w v B S) : Toks w' v B S := own_below h g

theorem squeeze_le (ts : List Tok) : (squeeze ts).length ≤ ts.length := Nat.le_trans (trim_len _) (sqF_len true ts)

set_option maxRecDepth 20000 in
set_option maxHeartbeats 2000000 in
theorem Is9_spec (x : Tok) (c : UInt8) (w : World) : Calls Tryz.prog 101 #[.agg #[.int .i64 x.k, .string ⟨x.t.toArray⟩, .int .i64 x.n], .string ⟨#[c]⟩] w (Ans (.bool (signIs x c)) w) := by
  unfold signIs
  cases hk : (x.k == 6) <;> cases ht : (x.t == [c]) <;>
  · go_enter Tryz.func101, Tryz.ntmps101
    go_wp2_with fail
    go_ret
    exact ⟨rfl, (Below.refl _ _).alloc (Nat.le_refl _) _⟩

/-- What lies between: the result, an empty note, the note. -/
structure In9 (w : World) (b5 b6 : Nat) (n : No) (W : World) : Prop where
  r : LBlk W w.heap.size (noL No.zero)
  z : LBlk W b5 (noL No.zero)
  n : LBlk W b6 (noL n)
  b : Below w.heap.size w W

theorem In9.strong {w W : World} {b5 b6 : Nat} {l : Int} {v : Va} (h : In9 w b5 b6 ⟨l, v, false⟩ W) (h1 : w.heap.size < b6) (h2 : b5 < b6) : In9 w b5 b6 ⟨l, v, true⟩ (W.setCell ⟨b6, 8, none⟩ (.bool true)) :=
  ⟨h.r.set_other (by omega) 8 _, h.z.set_other (by omega) 8 _, h.n.set 8 (.bool true) (by show 8 < 9; decide), h.b.setCell (p := ⟨b6, 8, none⟩) (Nat.le_of_lt h1) _⟩

theorem In9.call {w W W' : World} {b5 b6 : Nat} {n : No} (h : In9 w b5 b6 n W) (g : Below W.heap.size W W') : In9 w b5 b6 n W' := ⟨h.r.below g, h.z.below g, h.n.below g, h.b.trans (g.mono h.b.size)⟩

set_option maxRecDepth 20000 in
set_option maxHeartbeats 8000000 in
theorem Piece_spec (ts : List Tok) (v : Value) (w : World) (h : TokSlc w v ts) (hf : ∀ x ∈ ts, TokFit x) (hs : ts.length ≤ 1000000) (ha : ts.all tokOk = true) :
    Calls Tryz.prog 130 #[v] w (ReadIs (piece ts) w) := by
  have hr0 : LBlk (w.alloc (.cells #[.int .i64 0, .int .i64 0, .int .i64 0, .int .i64 0, .int .i64 0, .int .i64 0, .int .i64 0, .string ⟨#[]⟩, .bool false] 56)) w.heap.size (noL No.zero) := LBlk.new w _ _
  have hB0 : Below w.heap.size w (w.alloc (.cells #[.int .i64 0, .int .i64 0, .int .i64 0, .int .i64 0, .int .i64 0, .int .i64 0, .int .i64 0, .string ⟨#[]⟩, .bool false] 56)) := (Below.refl _ _).alloc (Nat.le_refl _) _
  have HQ := Lib.hid (SqzS_slc ts v _ (h.on hB0) (by omega))
  obtain ⟨a0, cap0, rfl, _⟩ := h.form
  have hsq : (squeeze ts).length ≤ 1000000 := Nat.le_trans (squeeze_le ts) hs
  generalize ts.length = n0 at *
  obtain ⟨S, hS⟩ : ∃ S, squeeze ts = S := ⟨_, rfl⟩
  have HS := Lib.hid hS
  rw [hS] at HQ
  have hml : S.length ≤ n0 ∨ True := Or.inr trivial
  have HSF := Lib.hid (show (∀ x ∈ S, TokFit x) ∧ (∀ x ∈ S, tokOk x = true) from ⟨fun x hx => hf x (mem_squeeze (by rw [hS]; exact hx)), fun x hx => List.all_eq_true.1 ha x (mem_squeeze (by rw [hS]; exact hx))⟩)
  unfold Squeezes at HQ
  clear h hf ha hS hml
  go_enter Tryz.func130, Tryz.ntmps130
  go_wp2_with fail
  generalize w.alloc (.cells #[.int .i64 0, .int .i64 0, .int .i64 0, .int .i64 0, .int .i64 0, .int .i64 0, .int .i64 0, .string ⟨#[]⟩, .bool false] 56) = W0 at *
  refine HQ.out.mono ?_
  rintro e w1 ⟨u, rfl, hu, g1⟩
  have hB1 := hB0.trans (g1.mono hB0.size)
  have hr1 := hr0.below g1
  obtain ⟨w2, hst2, hz2, g2⟩ := no_laid w1 No.zero
  have HST2 := Lib.hid hst2
  have hB2 := hB1.trans (g2.mono hB1.size)
  have hr2 := hr1.below g2
  have hu2 := row_below g2 hu
  obtain ⟨a1, c1, e1, hmc, hcap, _⟩ := (Toks.val hu).slc.form
  obtain ⟨m, hm⟩ : ∃ m, S.length = m := ⟨_, rfl⟩
  have HM := Lib.hid hm
  rw [hm] at e1 hmc
  subst e1
  have hmb : m ≤ 1000000 := by rw [← hm, ← HS.out]; exact hsq
  have hB1s := Lib.hid (show w.heap.size < w1.heap.size ∧ w1.heap.size < w2.heap.size from ⟨Nat.lt_of_lt_of_le hr0.1 g1.size, hz2.1⟩)
  clear hst2 hu hr0 hr1 hB0 hB1 g1 HQ hm hs hsq
  by_cases h2 : m < 2
  · have h2' : (m : Int) < 2 := by omega
    have HP := Lib.hid (piece_short HS.out (by rw [HM.out]; exact h2))
    clear h2
    obtain ⟨w9, hst9, hl9, ho9⟩ := no_store (o := No.zero) hr2 No.zero
    have HST9 := Lib.hid hst9
    have HL9 := Lib.hid (no_ldE hz2)
    clear hst9
    go_wp2_with (first | ((with_reducible refine wp_store_at HST2.out ?_ ?_); exact And.intro rfl (And.intro rfl (And.intro rfl rfl))) | ((with_reducible refine wp_load_at HL9.out ?_ ?_); exact And.intro rfl (And.intro rfl rfl)) | ((with_reducible refine wp_store_at HST9.out ?_ ?_); exact And.intro rfl (And.intro rfl (And.intro rfl rfl))))
    exact bodyPost_ret (results_wide2 (load_blk hl9 no_wide) rfl rfl) rfl ⟨by rw [HP.out]; rfl, hB2.trans (ho9.below (Nat.le_refl _) hB2.size)⟩
  · have h2' : ¬ (m : Int) < 2 := by omega
    obtain ⟨a, b, rs, eS⟩ : ∃ a b rs, S = a :: b :: rs := by
      match S, HM.out with
      | [], hh => exact absurd hh (by simp; omega)
      | [_], hh => exact absurd hh (by simp; omega)
      | a :: b :: rs, _ => exact ⟨a, b, rs, rfl⟩
    obtain ⟨g, rfl⟩ := tk9_addr hu2 (by rw [eS]; simp)
    have hca := tk9_cells (k := 0) hu2 (by rw [eS]; rfl)
    have hcb := tk9_cells (k := 1) hu2 (by rw [eS]; rfl)
    have ca0 : w2.cell? ⟨g, 0, none⟩ = some (.int .i64 a.k) := hca.1
    have HES := Lib.hid eS
    have HGL := Lib.hid (show g < w2.heap.size from (at_of_slc (Toks.val hu2).slc (by rw [eS]; simp)).lt)
    have hmc' : (m : Int) ≤ (c1 : Int) := by omega
    have m0' : (0 : Int) < (m : Int) := by omega
    have m1' : (1 : Int) < (m : Int) := by omega
    by_cases hk : a.k = 1
    · have hk' : (a.k != 1) = false := by simp [hk]
      obtain ⟨w3, hst3, hn3, g3⟩ := no_laid w2 ⟨lookOf a.t, Va.zero, false⟩
      have HST3 := Lib.hid hst3
      have HLK := Lib.hid (fun w' => LookOf_spec a.t w')
      have ca1 : w2.cell? ⟨g, 1, none⟩ = some (.string ⟨a.t.toArray⟩) := hca.2.1
      have HU2 := Lib.hid hu2
      clear hst3 hn3 g3 HST3 hca hcb eS h2 hu2
      go_wp2_with (first | ((with_reducible refine wp_store_at HST2.out ?_ ?_); exact And.intro rfl (And.intro rfl (And.intro rfl rfl))))
      refine (HLK.out _).mono ?_
      rintro e w3 ⟨rfl, g3⟩
      obtain ⟨w4, hst4, hn4, g4⟩ := no_laid w3 ⟨lookOf a.t, Va.zero, false⟩
      have HST4 := Lib.hid hst4
      have hB4 := (hB2.trans (g3.mono hB2.size)).trans (g4.mono (hB2.trans (g3.mono hB2.size)).size)
      have hI : In9 w w1.heap.size w3.heap.size ⟨lookOf a.t, Va.zero, false⟩ w4 := ⟨(hr2.below g3).below g4, (hz2.below g3).below g4, hn4, hB4⟩
      have hu4 := row_below g4 (row_below g3 HU2.out)
      have hcb := tk9_cells (k := 1) hu4 (by rw [HES.out]; rfl)
      have cb0 : w4.cell? ⟨g, 3, none⟩ = some (.int .i64 b.k) := hcb.1
      obtain ⟨b5, hb5⟩ : ∃ q, w1.heap.size = q := ⟨_, rfl⟩
      obtain ⟨b6, hb6⟩ : ∃ q, w3.heap.size = q := ⟨_, rfl⟩
      have hbs : g < b6 ∧ w.heap.size < b6 ∧ b5 < b6 := by
        have q1 := HGL.out
        have q2 := g3.size
        have q3 := g2.size
        have q4 := hB1s.out
        rw [← hb6, ← hb5]
        omega
      have HLT := Lib.hid hbs
      clear hbs
      rw [hb5, hb6] at hI
      have HU4 := Lib.hid hu4
      have HI := Lib.hid hI
      have HK1 := Lib.hid hk
      rw [hb5]
      have HB6 := Lib.hid hb6
      clear hb5 hb6 hst4 hn4 g4 g3 hu4 hcb hI hr2 hz2 hB2 hB4 HST2 HU2 ca0 ca1 HLK g2 hk
      go_upto_if 35 with (((with_reducible refine wp_store_at HST4.out ?_ ?_); exact And.intro rfl (And.intro rfl (And.intro rfl rfl))))
      rw [HB6.out]
      clear HB6 HST4
      go_cut [7] (fun s7 wx => ∃ J : Nat, s7 = .int .i64 (J : Int) ∧ 1 ≤ J ∧ J ≤ m ∧ Hid (piece ts = afterName a (S.drop J)) ∧ wx = w4)
      case first =>
        by_cases h5 : b.k = 5
        · have h5' : (b.k == 5) = true := by simp [h5]
          have HP := Lib.hid (show piece ts = afterName a (S.drop 2) from piece_at (HS.out.trans HES.out) HK1.out (by rw [if_pos h5]) HES.out.symm)
          clear h5
          go_wp2_with fail
          go_meet
          exact ⟨2, rfl, by decide, by omega, HP, rfl⟩
        · have h5' : (b.k == 5) = false := by simp [h5]
          have HP := Lib.hid (show piece ts = afterName a (S.drop 1) from piece_at (HS.out.trans HES.out) HK1.out (by rw [if_neg h5]) HES.out.symm)
          clear h5
          go_wp2_with fail
          go_meet
          exact ⟨1, rfl, by decide, by omega, HP, rfl⟩
      case rest =>
        obtain ⟨J, rfl, hJ1, hJm, HPJ, rfl⟩ := hcut
        clear cb0
        by_cases hJ : J = m
        · have hJ' : ((J : Int) == (m : Int)) = true := by simp [hJ]
          have HP := Lib.hid (show piece ts = none by rw [HPJ.out]; exact after_end (by rw [HM.out, hJ]; exact Nat.le_refl _))
          have hr := HI.out.r
          have hz := HI.out.z
          have hB := HI.out.b
          clear hJ
          obtain ⟨w9, hst9, hl9, ho9⟩ := no_store (o := No.zero) hr No.zero
          have HST9 := Lib.hid hst9
          have HL9 := Lib.hid (no_ldE hz)
          clear hst9
          go_wp2_with (first | ((with_reducible refine wp_load_at HL9.out ?_ ?_); exact And.intro rfl (And.intro rfl rfl)) | ((with_reducible refine wp_store_at HST9.out ?_ ?_); exact And.intro rfl (And.intro rfl (And.intro rfl rfl))))
          exact bodyPost_ret (results_wide2 (load_blk hl9 no_wide) rfl rfl) rfl ⟨by rw [HP.out]; rfl, hB.trans (ho9.below (Nat.le_refl _) hB.size)⟩
        · have hJ' : ((J : Int) == (m : Int)) = false := by simp; omega
          have hJl : (J : Int) < (m : Int) := by omega
          have hJ0 : (0 : Int) ≤ (J : Int) := by omega
          obtain ⟨x, hx⟩ : ∃ x, S[J]? = some x := ⟨_, List.getElem?_eq_getElem (by rw [HM.out]; omega)⟩
          obtain ⟨x0, x1, x2⟩ := tk9_cells HU4.out hx
          have HAT := Lib.hid (HPJ.out.trans (after_at (a := a) hx))
          have HIS := Lib.hid (fun W => Is9_spec x 58 W)
          clear hx
          cases h58 : signIs x 58
          · rw [h58] at HIS HAT
            have HP := Lib.hid (show piece ts = none by rw [HAT.out]; rfl)
            go_wp2_with fail
            refine (HIS.out _).mono ?_
            rintro e w5 ⟨rfl, g5⟩
            have hI5 := HI.out.call g5
            have hr := hI5.r
            have hz := hI5.z
            have hB := hI5.b
            clear hI5 x0 x1 x2
            obtain ⟨w9, hst9, hl9, ho9⟩ := no_store (o := No.zero) hr No.zero
            have HST9 := Lib.hid hst9
            have HL9 := Lib.hid (no_ldE hz)
            clear hst9
            go_wp2_with (first | ((with_reducible refine wp_load_at HL9.out ?_ ?_); exact And.intro rfl (And.intro rfl rfl)) | ((with_reducible refine wp_store_at HST9.out ?_ ?_); exact And.intro rfl (And.intro rfl (And.intro rfl rfl))))
            exact bodyPost_ret (results_wide2 (load_blk hl9 no_wide) rfl rfl) rfl ⟨by rw [HP.out]; rfl, hB.trans (ho9.below (Nat.le_refl _) hB.size)⟩
          · rw [h58] at HIS HAT
            obtain ⟨K, hK⟩ : ∃ K, J + 1 = K := ⟨_, rfl⟩
            have HAT2 := Lib.hid (show piece ts = noteOf a (S.drop K) by rw [HAT.out, if_pos rfl, hK])
            have hKw : IntKind.i64.wrap ((J : Int) + 1) = (K : Int) := by rw [IntKind.wrap_i64]; omega
            have hfrom := fun w' => tok_from g 0 m c1 K (by omega) hmc w'
            have HD := Lib.hid (fun W (hW : TokSlc W (.slice (some ⟨g, 0, none⟩) m c1) S) => slc_drop (K := K) (at_of_slc hW (by rw [HES.out]; simp)) HM.out (by omega) hmc hcap)
            obtain ⟨o, ho⟩ : ∃ o, (if c1 = K then (⟨g, 0, none⟩ : Addr) else ⟨g, 0 + K * 3, none⟩) = ⟨g, o, none⟩ := by
              by_cases hc : c1 = K
              · exact ⟨0, by rw [if_pos hc]⟩
              · exact ⟨0 + K * 3, by rw [if_neg hc]⟩
            rw [ho] at HD
            simp only [ho] at hfrom
            obtain ⟨q, hq⟩ : ∃ q, S.drop K = q := ⟨_, rfl⟩
            obtain ⟨nq, hnq⟩ : ∃ nq, m - K = nq := ⟨_, rfl⟩
            obtain ⟨cq, hcq⟩ : ∃ cq, c1 - K = cq := ⟨_, rfl⟩
            rw [hq, hnq, hcq] at HD
            rw [hnq, hcq] at hfrom
            rw [hq] at HAT2
            have HNQ := Lib.hid (show q.length = nq by rw [← hq, List.length_drop, HM.out, hnq])
            have HQF := Lib.hid (show (∀ y ∈ q, TokFit y) ∧ (∀ y ∈ q, tokOk y = true) from ⟨fun y hy => HSF.out.1 y (List.mem_of_mem_drop (by rw [hq]; exact hy)), fun y hy => HSF.out.2 y (List.mem_of_mem_drop (by rw [hq]; exact hy))⟩)
            have hnq6 : nq ≤ 1000000 := by omega
            have hncq : nq ≤ cq := by omega
            have hcqt : cq ≤ 9223372036854775807 := by omega
            clear ho hq hnq hcq hK HAT HPJ hJ
            go_wp2_with fail
            refine (HIS.out _).mono ?_
            rintro e w5 ⟨rfl, g5⟩
            have HI5 := Lib.hid (HI.out.call g5)
            have HQ5 := Lib.hid (HD.out _ (Toks.val (row_below g5 HU4.out)).slc)
            clear g5 x0 x1 x2 HI HU4 HD HIS
            go_upto_block 0 with fail
            go_cut [4] (fun s4 wx => ∃ (p : List Tok) (st : Bool), Hid (bang q = some (p, st)) ∧ Hid (TokSlc wx s4 p) ∧ Hid (∀ y ∈ p, y ∈ q) ∧ p.length ≤ nq ∧ Hid (In9 w b5 b6 ⟨lookOf a.t, Va.zero, st⟩ wx))
            case first =>
              go_wp2_with fail
              have hncq' : (nq : Int) ≤ (cq : Int) := by omega
              have hnq6' : (nq : Int) ≤ 1000000 := by omega
              go_loopg [4, 8] nq (fun kx s4 s8 wr => ∃ i : Nat, s4 = .slice (some ⟨g, o, none⟩) nq cq ∧ s8 = .int .i64 (i : Int) ∧ kx + i = nq ∧ Hid (bang q = (bang (q.drop i)).map fun ps => (q.take i ++ ps.1, ps.2)) ∧ Below w5.heap.size w5 wr)
              case atStart => exact ⟨0, rfl, rfl, by omega, Lib.hid (bang_first q), Below.refl _ _⟩
              case round =>
                obtain ⟨i, rfl, rfl, hki, HBG, hB⟩ := hrel
                by_cases hlt : i < nq
                · have hlt' : (i : Int) < (nq : Int) := by omega
                  have i0' : (0 : Int) ≤ (i : Int) := by omega
                  obtain ⟨y, hy⟩ : ∃ y, q[i]? = some y := ⟨_, List.getElem?_eq_getElem (by rw [HNQ.out]; exact hlt)⟩
                  have HAQ := Lib.hid (at_of_slc HQ5.out (by intro e0; rw [e0] at hy; cases hy))
                  obtain ⟨y0, y1, y2⟩ := three_at (HAQ.out.on hB) hy
                  have HIS := Lib.hid (fun W => Is9_spec y 33 W)
                  have HY := Lib.hid hy
                  clear hy
                  cases h33 : signIs y 33
                  · rw [h33] at HIS
                    have HB2 := Lib.hid (bang_next HY.out h33 HBG.out)
                    clear h33
                    go_wp2_with fail
                    refine (HIS.out _).mono ?_
                    rintro e w6 ⟨rfl, g6⟩
                    go_wp2_with fail
                    go_roundg (nq - (i + 1))
                    case measure => omega
                    case rel => exact ⟨i + 1, rfl, by go_num, by omega, HB2, hB.trans (g6.mono hB.size)⟩
                  · rw [h33] at HIS
                    have H33 := Lib.hid h33
                    clear h33
                    obtain ⟨i2, hi2⟩ : ∃ i2, i + 2 = i2 := ⟨_, rfl⟩
                    have hw2 : IntKind.i64.wrap ((i : Int) + 2) = (i2 : Int) := by rw [IntKind.wrap_i64]; omega
                    by_cases hn2 : i2 = nq
                    · have hne : ((i2 : Int) != (nq : Int)) = false := by simp [hn2]
                      obtain ⟨i1, hi1⟩ : ∃ i1, i + 1 = i1 := ⟨_, rfl⟩
                      have hw1 : IntKind.i64.wrap ((i : Int) + 1) = (i1 : Int) := by rw [IntKind.wrap_i64]; omega
                      have hl1 : (i1 : Int) < (nq : Int) := by omega
                      have hl0 : (0 : Int) ≤ (i1 : Int) := by omega
                      obtain ⟨z, hz⟩ : ∃ z, q[i1]? = some z := ⟨_, List.getElem?_eq_getElem (by rw [HNQ.out]; omega)⟩
                      have HTW := Lib.hid (bang_two HY.out (by rw [hi1]; exact hz) H33.out HBG.out (by rw [HNQ.out]; omega))
                      have HZ := Lib.hid hz
                      have hto := fun w' => tok_to g o nq cq i (by omega) w'
                      have HTK := Lib.hid (fun W (hA : RC.At 3 W g o (tokRs q)) => slc_take (i := i) hA (by rw [HNQ.out]; exact hlt) (by rw [HNQ.out]; exact hncq) hcqt)
                      clear hz hi1 hi2 hn2
                      by_cases hzk : z.k = 1
                      · have hzk' : (z.k != 1) = false := by simp [hzk]
                        by_cases hzt : z.t = strongN
                        · have HBS := Lib.hid (show bang q = some (q.take i, true) by rw [HTW.out, if_pos ⟨hzk, hzt⟩])
                          have hzt' : (z.t == [115, 116, 114, 111, 110, 103]) = true := str_same hzt
                          have hzt2 : (z.t != [115, 116, 114, 111, 110, 103]) = false := by simp [bne, hzt']
                          clear hzk hzt HTW
                          go_wp2_with fail
                          refine (HIS.out _).mono ?_
                          rintro e w6 ⟨rfl, g6⟩
                          have hB6 := hB.trans (g6.mono hB.size)
                          obtain ⟨z0, z1, z2⟩ := three_at (HAQ.out.on hB6) HZ.out
                          have hI6 := HI5.out.call hB6
                          have HI7 := Lib.hid (show In9 w b5 b6 ⟨lookOf a.t, Va.zero, true⟩ (w6.setCell ⟨b6, 8, none⟩ (.bool true)) from hI6.strong HLT.out.2.1 HLT.out.2.2)
                          have HQ7 := Lib.hid (HTK.out (w6.setCell ⟨b6, 8, none⟩ (.bool true)) ((HAQ.out.on hB6).under ((Below.refl b6 w6).setCell (p := ⟨b6, 8, none⟩) (Nat.le_refl _) _) HLT.out.1))
                          obtain ⟨k8, f8⟩ := hI6.n.2 8 _ rfl
                          clear hI6 hB6 g6
                          go_wp2_with fail
                          go_meet
                          exact ⟨_, _, HBS, HQ7, Lib.hid (fun y hy => List.mem_of_mem_take hy), by rw [List.length_take]; omega, HI7⟩
                        · have HBS := Lib.hid (show bang q = none by rw [HTW.out, if_neg (fun hh => hzt hh.2)])
                          have hzt' : (z.t == [115, 116, 114, 111, 110, 103]) = false := str_other hzt
                          have hzt2 : (z.t != [115, 116, 114, 111, 110, 103]) = true := by simp [bne, hzt']
                          clear hzk hzt HTW
                          go_wp2_with fail
                          refine (HIS.out _).mono ?_
                          rintro e w6 ⟨rfl, g6⟩
                          have hB6 := hB.trans (g6.mono hB.size)
                          obtain ⟨z0, z1, z2⟩ := three_at (HAQ.out.on hB6) HZ.out
                          have HP := Lib.hid (show piece ts = none by rw [HAT2.out]; exact noteOf_bang HBS.out)
                          have hI6 := HI5.out.call hB6
                          have hr := hI6.r
                          have hz := hI6.z
                          have hB := hI6.b
                          clear hI6 g6
                          obtain ⟨w9, hst9, hl9, ho9⟩ := no_store (o := No.zero) hr No.zero
                          have HST9 := Lib.hid hst9
                          have HL9 := Lib.hid (no_ldE hz)
                          clear hst9
                          go_wp2_with (first | ((with_reducible refine wp_load_at HL9.out ?_ ?_); exact And.intro rfl (And.intro rfl rfl)) | ((with_reducible refine wp_store_at HST9.out ?_ ?_); exact And.intro rfl (And.intro rfl (And.intro rfl rfl))))
                          exact bodyPost_ret (results_wide2 (load_blk hl9 no_wide) rfl rfl) rfl ⟨by rw [HP.out]; rfl, hB.trans (ho9.below (Nat.le_refl _) hB.size)⟩
                      · have hzk' : (z.k != 1) = true := by simp [hzk]
                        have HBS := Lib.hid (show bang q = none by rw [HTW.out, if_neg (fun hh => hzk hh.1)])
                        clear hzk HTW
                        go_wp2_with fail
                        refine (HIS.out _).mono ?_
                        rintro e w6 ⟨rfl, g6⟩
                        have hB6 := hB.trans (g6.mono hB.size)
                        obtain ⟨z0, z1, z2⟩ := three_at (HAQ.out.on hB6) HZ.out
                        have HP := Lib.hid (show piece ts = none by rw [HAT2.out]; exact noteOf_bang HBS.out)
                        have hI6 := HI5.out.call hB6
                        have hr := hI6.r
                        have hz := hI6.z
                        have hB := hI6.b
                        clear hI6 g6
                        obtain ⟨w9, hst9, hl9, ho9⟩ := no_store (o := No.zero) hr No.zero
                        have HST9 := Lib.hid hst9
                        have HL9 := Lib.hid (no_ldE hz)
                        clear hst9
                        go_wp2_with (first | ((with_reducible refine wp_load_at HL9.out ?_ ?_); exact And.intro rfl (And.intro rfl rfl)) | ((with_reducible refine wp_store_at HST9.out ?_ ?_); exact And.intro rfl (And.intro rfl (And.intro rfl rfl))))
                        exact bodyPost_ret (results_wide2 (load_blk hl9 no_wide) rfl rfl) rfl ⟨by rw [HP.out]; rfl, hB.trans (ho9.below (Nat.le_refl _) hB.size)⟩
                    · have hne : ((i2 : Int) != (nq : Int)) = true := by simp; omega
                      have HBS := Lib.hid (bang_none HY.out H33.out HBG.out (by rw [HNQ.out, hi2]; exact hn2))
                      clear hn2 hi2
                      go_wp2_with fail
                      refine (HIS.out _).mono ?_
                      rintro e w6 ⟨rfl, g6⟩
                      have hB6 := hB.trans (g6.mono hB.size)
                      have HP := Lib.hid (show piece ts = none by rw [HAT2.out]; exact noteOf_bang HBS.out)
                      have hI6 := HI5.out.call hB6
                      have hr := hI6.r
                      have hz := hI6.z
                      have hB := hI6.b
                      clear hI6 g6
                      obtain ⟨w9, hst9, hl9, ho9⟩ := no_store (o := No.zero) hr No.zero
                      have HST9 := Lib.hid hst9
                      have HL9 := Lib.hid (no_ldE hz)
                      clear hst9
                      go_wp2_with (first | ((with_reducible refine wp_load_at HL9.out ?_ ?_); exact And.intro rfl (And.intro rfl rfl)) | ((with_reducible refine wp_store_at HST9.out ?_ ?_); exact And.intro rfl (And.intro rfl (And.intro rfl rfl))))
                      exact bodyPost_ret (results_wide2 (load_blk hl9 no_wide) rfl rfl) rfl ⟨by rw [HP.out]; rfl, hB.trans (ho9.below (Nat.le_refl _) hB.size)⟩
                · have hlt' : ¬ (i : Int) < (nq : Int) := by omega
                  have HBS := Lib.hid (bang_last (by rw [HNQ.out]; omega) HBG.out)
                  have HQ7 := Lib.hid (HQ5.out.on hB)
                  have HI7 := Lib.hid (HI5.out.call hB)
                  go_wp2_with fail
                  go_meet
                  exact ⟨q, false, HBS, HQ7, Lib.hid (fun y hy => hy), by rw [HNQ.out]; exact Nat.le_refl _, HI7⟩
            case rest =>
              obtain ⟨p, st, HBS, HP4, HSUB, hpl, HI9⟩ := hcut
              have HLR := Lib.hid (l6Read_val p _ wc HP4.out (fun y hy => HQF.out.1 y (HSUB.out y hy)) (by omega) (List.all_eq_true.2 fun y hy => HQF.out.2 y (HSUB.out y hy)))
              obtain ⟨ap, cp, rfl, _⟩ := HP4.out.form
              generalize p.length = np at *
              unfold V6.Reads at HLR
              cases hR : readToks p with
              | none =>
                have HP := Lib.hid (show piece ts = none by rw [HAT2.out]; exact noteOf_not HBS.out hR)
                obtain ⟨q1, q2⟩ := V6.reads_none hR
                rw [q1, q2] at HLR
                obtain ⟨y, ey⟩ : ∃ y, Va.zero = y := ⟨_, rfl⟩
                rw [ey] at HLR HI9
                clear hR q1 q2 ey
                unfold valV at HLR
                go_wp2_with fail
                refine HLR.out.mono ?_
                rintro e w6 ⟨rfl, g6⟩
                have hg7 : Below w6.heap.size w6 (w6.alloc (.cells #[.int .i64 y.k, .int .i64 y.n, .int .i64 y.r, .int .i64 y.g, .int .i64 y.b, .int .i64 y.c, .string ⟨y.w.toArray⟩] 54)) := (Below.refl _ _).alloc (Nat.le_refl _) _
                have hI7 := (HI9.out.call g6).call hg7
                have hv7 : LBlk (w6.alloc (.cells #[.int .i64 y.k, .int .i64 y.n, .int .i64 y.r, .int .i64 y.g, .int .i64 y.b, .int .i64 y.c, .string ⟨y.w.toArray⟩] 54)) w6.heap.size [.int .i64 y.k, .int .i64 y.n, .int .i64 y.r, .int .i64 y.g, .int .i64 y.b, .int .i64 y.c, .string ⟨y.w.toArray⟩] := LBlk.new w6 _ _
                obtain ⟨d0, d1, d2, d3, d4, d5, d6, _⟩ := seven_cells hv7
                obtain ⟨w8, hst8, hl8, ho8, _⟩ := store_part (P := Tryz.prog) (ty := 54) (o := 1) (vs := vaL y) hI7.n val9_wide (by simp [noL, vaL]) rfl
                have HST8 := Lib.hid (show (storeVar 54 ⟨b6, 1, none⟩ (valV y)).run Tryz.prog (w6.alloc (.cells #[.int .i64 y.k, .int .i64 y.n, .int .i64 y.r, .int .i64 y.g, .int .i64 y.b, .int .i64 y.c, .string ⟨y.w.toArray⟩] 54)) = .ok () w8 from hst8)
                have hI8 : In9 w b5 b6 ⟨lookOf a.t, y, st⟩ w8 := ⟨hI7.r.only ho8 (by have := HLT.out; omega), hI7.z.only ho8 (by have := HLT.out; omega), hl8, hI7.b.trans (ho8.below (Nat.le_of_lt HLT.out.2.1) hI7.b.size)⟩
                clear hst8 hl8 ho8 hv7 hI7 hg7 g6
                have hr := hI8.r
                have hz := hI8.z
                have hB := hI8.b
                clear hI8
                obtain ⟨w9, hst9, hl9, ho9⟩ := no_store (o := No.zero) hr No.zero
                have HST9 := Lib.hid hst9
                have HL9 := Lib.hid (no_ldE hz)
                clear hst9
                go_wp2_with (first | ((with_reducible refine wp_store_at HST8.out ?_ ?_); exact And.intro rfl (And.intro rfl (And.intro rfl rfl))) | ((with_reducible refine wp_load_at HL9.out ?_ ?_); exact And.intro rfl (And.intro rfl rfl)) | ((with_reducible refine wp_store_at HST9.out ?_ ?_); exact And.intro rfl (And.intro rfl (And.intro rfl rfl))))
                exact bodyPost_ret (results_wide2 (load_blk hl9 no_wide) rfl rfl) rfl ⟨by rw [HP.out]; rfl, hB.trans (ho9.below (Nat.le_refl _) hB.size)⟩
              | some y =>
                have HPC := Lib.hid (HAT2.out.trans (noteOf_is HBS.out hR))
                have hwy : y.w.length ≤ 1048576 := by have := value_short (read_valueOk hR); omega
                rw [show P6.valOf p = y by unfold P6.valOf; rw [hR]; rfl, show isVal p = true by unfold isVal; rw [hR]; rfl] at HLR
                have HNO := Lib.hid (fun w' => NoteOk_spec ⟨lookOf a.t, y, st⟩ hwy w')
                clear hR hwy
                unfold valV at HLR
                go_wp2_with fail
                refine HLR.out.mono ?_
                rintro e w6 ⟨rfl, g6⟩
                have hg7 : Below w6.heap.size w6 (w6.alloc (.cells #[.int .i64 y.k, .int .i64 y.n, .int .i64 y.r, .int .i64 y.g, .int .i64 y.b, .int .i64 y.c, .string ⟨y.w.toArray⟩] 54)) := (Below.refl _ _).alloc (Nat.le_refl _) _
                have hI7 := (HI9.out.call g6).call hg7
                have hv7 : LBlk (w6.alloc (.cells #[.int .i64 y.k, .int .i64 y.n, .int .i64 y.r, .int .i64 y.g, .int .i64 y.b, .int .i64 y.c, .string ⟨y.w.toArray⟩] 54)) w6.heap.size [.int .i64 y.k, .int .i64 y.n, .int .i64 y.r, .int .i64 y.g, .int .i64 y.b, .int .i64 y.c, .string ⟨y.w.toArray⟩] := LBlk.new w6 _ _
                obtain ⟨d0, d1, d2, d3, d4, d5, d6, _⟩ := seven_cells hv7
                obtain ⟨w8, hst8, hl8, ho8, _⟩ := store_part (P := Tryz.prog) (ty := 54) (o := 1) (vs := vaL y) hI7.n val9_wide (by simp [noL, vaL]) rfl
                have HST8 := Lib.hid (show (storeVar 54 ⟨b6, 1, none⟩ (valV y)).run Tryz.prog (w6.alloc (.cells #[.int .i64 y.k, .int .i64 y.n, .int .i64 y.r, .int .i64 y.g, .int .i64 y.b, .int .i64 y.c, .string ⟨y.w.toArray⟩] 54)) = .ok () w8 from hst8)
                have hI8 : In9 w b5 b6 ⟨lookOf a.t, y, st⟩ w8 := ⟨hI7.r.only ho8 (by have := HLT.out; omega), hI7.z.only ho8 (by have := HLT.out; omega), hl8, hI7.b.trans (ho8.below (Nat.le_of_lt HLT.out.2.1) hI7.b.size)⟩
                clear hst8 hl8 ho8 hv7 hI7 hg7 g6
                have HL8 := Lib.hid (no_ldE hI8.n)
                have HI8 := Lib.hid hI8
                clear hI8
                cases hnk : noteOk ⟨lookOf a.t, y, st⟩
                · rw [hnk] at HNO HPC
                  have HP := Lib.hid (show piece ts = none by rw [HPC.out]; rfl)
                  clear hnk
                  go_wp2_with (first | ((with_reducible refine wp_store_at HST8.out ?_ ?_); exact And.intro rfl (And.intro rfl (And.intro rfl rfl))) | (refine wpList_bare9 rfl ?_; (with_reducible refine wp_load_at HL8.out ?_ ?_); exact And.intro rfl (And.intro rfl rfl)))
                  refine (HNO.out _).mono ?_
                  rintro e wt ⟨rfl, gt⟩
                  have hI := HI8.out.call gt
                  have hr := hI.r
                  have hz := hI.z
                  have hB := hI.b
                  clear hI gt d0 d1 d2 d3 d4 d5 d6
                  obtain ⟨w9, hst9, hl9, ho9⟩ := no_store (o := No.zero) hr No.zero
                  have HST9 := Lib.hid hst9
                  have HL9 := Lib.hid (no_ldE hz)
                  clear hst9
                  go_wp2_with (first | ((with_reducible refine wp_load_at HL9.out ?_ ?_); exact And.intro rfl (And.intro rfl rfl)) | ((with_reducible refine wp_store_at HST9.out ?_ ?_); exact And.intro rfl (And.intro rfl (And.intro rfl rfl))))
                  exact bodyPost_ret (results_wide2 (load_blk hl9 no_wide) rfl rfl) rfl ⟨by rw [HP.out]; rfl, hB.trans (ho9.below (Nat.le_refl _) hB.size)⟩
                · rw [hnk] at HNO HPC
                  have HP := Lib.hid (show piece ts = some ⟨lookOf a.t, y, st⟩ by rw [HPC.out]; rfl)
                  clear hnk
                  go_wp2_with (first | ((with_reducible refine wp_store_at HST8.out ?_ ?_); exact And.intro rfl (And.intro rfl (And.intro rfl rfl))) | (refine wpList_bare9 rfl ?_; (with_reducible refine wp_load_at HL8.out ?_ ?_); exact And.intro rfl (And.intro rfl rfl)))
                  refine (HNO.out _).mono ?_
                  rintro e wt ⟨rfl, gt⟩
                  have hI := HI8.out.call gt
                  have hB := hI.b
                  obtain ⟨w9, hst9, hl9, ho9⟩ := no_store (o := No.zero) hI.r ⟨lookOf a.t, y, st⟩
                  have HST9 := Lib.hid hst9
                  have HL9 := Lib.hid (no_ldE hI.n)
                  clear hst9 hI gt d0 d1 d2 d3 d4 d5 d6
                  go_wp2_with (first | ((with_reducible refine wp_load_at HL9.out ?_ ?_); exact And.intro rfl (And.intro rfl rfl)) | ((with_reducible refine wp_store_at HST9.out ?_ ?_); exact And.intro rfl (And.intro rfl (And.intro rfl rfl))))
                  exact bodyPost_ret (results_wide2 (load_blk hl9 no_wide) rfl rfl) rfl ⟨by rw [HP.out]; rfl, hB.trans (ho9.below (Nat.le_refl _) hB.size)⟩
    · have hk' : (a.k != 1) = true := by simp [hk]
      have HP := Lib.hid (piece_kind (HS.out.trans HES.out) hk)
      clear hk
      obtain ⟨w9, hst9, hl9, ho9⟩ := no_store (o := No.zero) hr2 No.zero
      have HST9 := Lib.hid hst9
      have HL9 := Lib.hid (no_ldE hz2)
      clear hst9 hca hcb eS h2
      go_wp2_with (first | ((with_reducible refine wp_store_at HST2.out ?_ ?_); exact And.intro rfl (And.intro rfl (And.intro rfl rfl))) | ((with_reducible refine wp_load_at HL9.out ?_ ?_); exact And.intro rfl (And.intro rfl rfl)) | ((with_reducible refine wp_store_at HST9.out ?_ ?_); exact And.intro rfl (And.intro rfl (And.intro rfl rfl))))
      exact bodyPost_ret (results_wide2 (load_blk hl9 no_wide) rfl rfl) rfl ⟨by rw [HP.out]; rfl, hB2.trans (ho9.below (Nat.le_refl _) hB2.size)⟩

end Go.Proofs.YtliihnkonakacaaGreatDoor.B9
