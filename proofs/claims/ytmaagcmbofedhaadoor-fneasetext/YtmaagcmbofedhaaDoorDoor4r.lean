/- Contracts of chapter 4's functions (ease): the program's own reading: jumpOf, guessNumber, spelledOut, guessShape, ReadEase. -/
import Derived.Test.YtmaagcmbofedhaaDoorDoor4
namespace Go.Proofs.YtmaagcmbofedhaaDoor.B4
open Go.Proofs.YtmaagcmbofedhaaDoor.P1 Go.Proofs.YtmaagcmbofedhaaDoor.B1 Go.Proofs.YtmaagcmbofedhaaDoor.P2 Go.Proofs.YtmaagcmbofedhaaDoor.B2 Go.Proofs.YtmaagcmbofedhaaDoor.P3 Go.Proofs.YtmaagcmbofedhaaDoor.B3 Go.Proofs.YtmaagcmbofedhaaDoor.T1 Go.Proofs.YtmaagcmbofedhaaDoor.BT Go.Proofs.YtmaagcmbofedhaaDoor.P4 Go.Proofs.YtmaagcmbofedhaaDoor.D1
open Go.ChangeShapes Go.WideShapes Go.ChangeAt Go.RowKit
set_option linter.unusedVariables false

/-- What the tables that a text is read by hold. -/
structure LaidR (w : World) : Prop where
  show' : Laid w
  maxLen : ∃ m, w.cell? ⟨2, 0, none⟩ = some (.int .i64 m)
  syn : ∃ tp p, w.var? Tryd.prog "strconv.ErrSyntax" = some #[.iface tp p]
  rng : ∃ tp p, w.var? Tryd.prog "strconv.ErrRange" = some #[.iface tp p]

theorem named_syn : Tryd.prog.globalNamed "strconv.ErrSyntax" = some 3 := by kernel_rfl

theorem named_rng : Tryd.prog.globalNamed "strconv.ErrRange" = some 4 := by kernel_rfl

theorem LaidR.on {w w' : World} (h : LaidR w) (hb : Below w.heap.size w w') : LaidR w' :=
  ⟨h.show'.on hb, let ⟨m, e⟩ := h.maxLen; ⟨m, (hb.cell (p := ⟨2, 0, none⟩) (World.block_lt_of_cell? _ _ e)).trans e⟩, let ⟨t, p, e⟩ := h.syn; ⟨t, p, Joins.var_stays named_syn e hb (Nat.le_refl _)⟩, let ⟨t, p, e⟩ := h.rng; ⟨t, p, Joins.var_stays named_rng e hb (Nat.le_refl _)⟩⟩

theorem guessNumber_impl (l : List UInt8) (w : World) (R : LaidR w) (hl : l.length ≤ 1048576) :
    Calls Tryd.prog 50 #[.string ⟨l.toArray⟩] w (Ans (.int .i64 (guessNum l)) w) := by
  have hz : (⟨l.toArray⟩ : ByteArray).size ≤ 1048576 := by
    show l.toArray.size ≤ 1048576
    simpa using hl
  cases h : Lib.parseIntB 64 l with
  | ok v =>
    have Hk := Lib.hid (show guessNum l = v by unfold guessNum; rw [h])
    go_enter Tryd.func50, Tryd.ntmps50
    go_wp2_with (go_at_call 61; refine (Tryd.strconv_ParseInt_10_at64_ok _ (Nat.le_trans hz (by decide)) v h _).mono ?_; rintro e w' ⟨rfl, hw⟩)
    go_ret
    exact ⟨by rw [Hk.out]; rfl, by
      rcases hw with rfl | ⟨t, rfl⟩
      · exact Below.refl _ _
      · exact Joins.below_bytesWorld _ _ _ _ (Nat.le_refl _)⟩
  | «syntax» =>
    have Hk := Lib.hid (show guessNum l = 0 by unfold guessNum; rw [h])
    obtain ⟨tp, p, hv⟩ := R.syn
    go_enter Tryd.func50, Tryd.ntmps50
    go_wp2_with (go_at_call 61; refine (Tryd.strconv_ParseInt_10_at64_syntax_var _ (Nat.le_trans hz (by decide)) h tp p _ hv).mono ?_; rintro e w' ⟨N, rfl, _, _, hb⟩)
    go_ret
    exact ⟨by rw [Hk.out]; rfl, hb⟩
  | range =>
    have Hk := Lib.hid (show guessNum l = Lib.intSat 64 l by unfold guessNum; rw [h])
    obtain ⟨tp, p, hv⟩ := R.rng
    go_enter Tryd.func50, Tryd.ntmps50
    go_wp2_with (go_at_call 61; refine (Tryd.strconv_ParseInt_10_at64_range_var _ (Nat.le_trans hz (by decide)) h tp p _ hv).mono ?_; rintro e w' ⟨N, rfl, _, _, hb⟩)
    go_ret
    exact ⟨by rw [Hk.out]; rfl, hb⟩

theorem jump_found {l : List UInt8} {i : Nat} (h : jumpTab[i]? = some l) : guessJump l = i := by
  rcases i with _ | _ | _ | _ | _ | i
  all_goals (simp [jumpTab] at h)
  all_goals (subst h; rfl)

theorem jump_lost {l : List UInt8} (h : ∀ j, j < 5 → jumpTab[j]? ≠ some l) : guessJump l = 0 := by
  unfold guessJump
  rw [if_neg (fun e => h 1 (by decide) (by rw [e]; rfl)), if_neg (fun e => h 2 (by decide) (by rw [e]; rfl)), if_neg (fun e => h 3 (by decide) (by rw [e]; rfl)), if_neg (fun e => h 4 (by decide) (by rw [e]; rfl))]

theorem word_0 (a0 a1 a2 a3 a4 : Value) (w : World) : (Instr.index 47 (.agg #[a0, a1, a2, a3, a4]) (.int .i64 0)).run Tryd.prog w = .ok a0 w := by kernel_rfl

theorem word_1 (a0 a1 a2 a3 a4 : Value) (w : World) : (Instr.index 47 (.agg #[a0, a1, a2, a3, a4]) (.int .i64 1)).run Tryd.prog w = .ok a1 w := by kernel_rfl

theorem word_2 (a0 a1 a2 a3 a4 : Value) (w : World) : (Instr.index 47 (.agg #[a0, a1, a2, a3, a4]) (.int .i64 2)).run Tryd.prog w = .ok a2 w := by kernel_rfl

theorem word_3 (a0 a1 a2 a3 a4 : Value) (w : World) : (Instr.index 47 (.agg #[a0, a1, a2, a3, a4]) (.int .i64 3)).run Tryd.prog w = .ok a3 w := by kernel_rfl

theorem word_4 (a0 a1 a2 a3 a4 : Value) (w : World) : (Instr.index 47 (.agg #[a0, a1, a2, a3, a4]) (.int .i64 4)).run Tryd.prog w = .ok a4 w := by kernel_rfl

set_option maxRecDepth 20000 in
set_option maxHeartbeats 2000000 in
theorem jumpOf_impl (l : List UInt8) (w : World) (L : Laid w) :
    Calls Tryd.prog 51 #[.string ⟨l.toArray⟩] w (Ans (.int .i64 (guessJump l)) w) := by
  obtain ⟨t0, e0⟩ : ∃ t, jumpTab[0]? = some t := ⟨_, rfl⟩
  obtain ⟨t1, e1⟩ : ∃ t, jumpTab[1]? = some t := ⟨_, rfl⟩
  obtain ⟨t2, e2⟩ : ∃ t, jumpTab[2]? = some t := ⟨_, rfl⟩
  obtain ⟨t3, e3⟩ : ∃ t, jumpTab[3]? = some t := ⟨_, rfl⟩
  obtain ⟨t4, e4⟩ : ∃ t, jumpTab[4]? = some t := ⟨_, rfl⟩
  have c0 := L.cell 0 e0
  have c1 := L.cell 1 e1
  have c2 := L.cell 2 e2
  have c3 := L.cell 3 e3
  have c4 := L.cell 4 e4
  have H0 := Lib.hid e0
  have H1 := Lib.hid e1
  have H2 := Lib.hid e2
  have H3 := Lib.hid e3
  have H4 := Lib.hid e4
  clear e0 e1 e2 e3 e4
  have i0 := word_0 (.string ⟨t0.toArray⟩) (.string ⟨t1.toArray⟩) (.string ⟨t2.toArray⟩) (.string ⟨t3.toArray⟩) (.string ⟨t4.toArray⟩)
  have i1 := word_1 (.string ⟨t0.toArray⟩) (.string ⟨t1.toArray⟩) (.string ⟨t2.toArray⟩) (.string ⟨t3.toArray⟩) (.string ⟨t4.toArray⟩)
  have i2 := word_2 (.string ⟨t0.toArray⟩) (.string ⟨t1.toArray⟩) (.string ⟨t2.toArray⟩) (.string ⟨t3.toArray⟩) (.string ⟨t4.toArray⟩)
  have i3 := word_3 (.string ⟨t0.toArray⟩) (.string ⟨t1.toArray⟩) (.string ⟨t2.toArray⟩) (.string ⟨t3.toArray⟩) (.string ⟨t4.toArray⟩)
  have i4 := word_4 (.string ⟨t0.toArray⟩) (.string ⟨t1.toArray⟩) (.string ⟨t2.toArray⟩) (.string ⟨t3.toArray⟩) (.string ⟨t4.toArray⟩)
  go_enter Tryd.func51, Tryd.ntmps51
  go_wp2
  go_loop [6] (fun s6 => ∃ i : Nat, s6 = .int .i64 (i : Int) ∧ i ≤ 5 ∧ Hid (∀ j, j < i → jumpTab[j]? ≠ some l)) (fun s6 => 5 - (intOf s6).toNat)
  case atStart => exact ⟨0, rfl, by omega, Lib.hid fun j h => absurd h (Nat.not_lt_zero _)⟩
  case round =>
    obtain ⟨i, rfl, hi, I⟩ := hrel
    have next : ∀ (i : Nat) (t : List UInt8), jumpTab[i]? = some t → t ≠ l → (∀ j, j < i → jumpTab[j]? ≠ some l) → ∀ j, j < i + 1 → jumpTab[j]? ≠ some l := fun i t ht hne I j hj => by
      rcases Nat.lt_or_eq_of_le (Nat.le_of_lt_succ hj) with h | h
      · exact I j h
      · rw [h, ht]; intro e; exact hne (Option.some.inj e)
    have HN := Lib.hid next
    clear next
    rcases (show i = 0 ∨ i = 1 ∨ i = 2 ∨ i = 3 ∨ i = 4 ∨ i = 5 by omega) with rfl | rfl | rfl | rfl | rfl | rfl
    · by_cases he : t0 = l
      · have hsame := str_same he
        have HR := Lib.hid (jump_found (he ▸ H0.out))
        clear he
        go_wp2
        go_ret
        exact ⟨by rw [HR.out]; rfl, Below.refl _ _⟩
      · have hoth := str_other he
        have HI := Lib.hid (HN.out 0 t0 H0.out he I.out)
        clear he
        go_wp2
        go_round
        case rel => exact ⟨1, rfl, by omega, HI⟩
        case measure => simp [intOf]
    · by_cases he : t1 = l
      · have hsame := str_same he
        have HR := Lib.hid (jump_found (he ▸ H1.out))
        clear he
        go_wp2
        go_ret
        exact ⟨by rw [HR.out]; rfl, Below.refl _ _⟩
      · have hoth := str_other he
        have HI := Lib.hid (HN.out 1 t1 H1.out he I.out)
        clear he
        go_wp2
        go_round
        case rel => exact ⟨2, rfl, by omega, HI⟩
        case measure => simp [intOf]
    · by_cases he : t2 = l
      · have hsame := str_same he
        have HR := Lib.hid (jump_found (he ▸ H2.out))
        clear he
        go_wp2
        go_ret
        exact ⟨by rw [HR.out]; rfl, Below.refl _ _⟩
      · have hoth := str_other he
        have HI := Lib.hid (HN.out 2 t2 H2.out he I.out)
        clear he
        go_wp2
        go_round
        case rel => exact ⟨3, rfl, by omega, HI⟩
        case measure => simp [intOf]
    · by_cases he : t3 = l
      · have hsame := str_same he
        have HR := Lib.hid (jump_found (he ▸ H3.out))
        clear he
        go_wp2
        go_ret
        exact ⟨by rw [HR.out]; rfl, Below.refl _ _⟩
      · have hoth := str_other he
        have HI := Lib.hid (HN.out 3 t3 H3.out he I.out)
        clear he
        go_wp2
        go_round
        case rel => exact ⟨4, rfl, by omega, HI⟩
        case measure => simp [intOf]
    · by_cases he : t4 = l
      · have hsame := str_same he
        have HR := Lib.hid (jump_found (he ▸ H4.out))
        clear he
        go_wp2
        go_ret
        exact ⟨by rw [HR.out]; rfl, Below.refl _ _⟩
      · have hoth := str_other he
        have HI := Lib.hid (HN.out 4 t4 H4.out he I.out)
        clear he
        go_wp2
        go_round
        case rel => exact ⟨5, rfl, by omega, HI⟩
        case measure => simp [intOf]
    · have HR := Lib.hid (jump_lost I.out)
      go_wp2
      go_ret
      exact ⟨by rw [HR.out]; rfl, Below.refl _ _⟩

theorem spelledOut_impl (s : List UInt8) (w : World) :
    Calls Tryd.prog 25 #[.string ⟨s.toArray⟩] w fun e w' => e = .returned (.string ⟨(spell s).toArray⟩) ∧ w = w' := by
  by_cases h1 : s = slowW
  · have q1 : (s == [115, 108, 111, 119]) = true := str_same h1
    have Hk := Lib.hid (show spell s = slowT from if_pos h1)
    clear h1
    go_enter Tryd.func25, Tryd.ntmps25
    go_wp2
    go_ret
    exact ⟨by rw [Hk.out]; rfl, rfl⟩
  · have q1 : (s == [115, 108, 111, 119]) = false := str_other h1
    by_cases h2 : s = quickW
    · have q2 : (s == [113, 117, 105, 99, 107]) = true := str_same h2
      have Hk := Lib.hid (show spell s = quickT by rw [spell, if_neg h1, if_pos h2])
      clear h1 h2
      go_enter Tryd.func25, Tryd.ntmps25
      go_wp2
      go_ret
      exact ⟨by rw [Hk.out]; rfl, rfl⟩
    · have q2 : (s == [113, 117, 105, 99, 107]) = false := str_other h2
      by_cases h3 : s = softW
      · have q3 : (s == [115, 111, 102, 116]) = true := str_same h3
        have Hk := Lib.hid (show spell s = softT by rw [spell, if_neg h1, if_neg h2, if_pos h3])
        clear h1 h2 h3
        go_enter Tryd.func25, Tryd.ntmps25
        go_wp2
        go_ret
        exact ⟨by rw [Hk.out]; rfl, rfl⟩
      · have q3 : (s == [115, 111, 102, 116]) = false := str_other h3
        have Hk := Lib.hid (show spell s = s by rw [spell, if_neg h1, if_neg h2, if_neg h3])
        clear h1 h2 h3
        go_enter Tryd.func25, Tryd.ntmps25
        go_wp2
        go_ret
        exact ⟨by rw [Hk.out]; rfl, rfl⟩

theorem spell_len {s : List UInt8} (h : s.length ≤ 1048576) : (spell s).length ≤ 1048576 := by
  unfold spell
  split
  · decide
  · split
    · decide
    · split
      · decide
      · exact h

/-- The shape that is guessed out of the words. -/
def shapeV : List (List UInt8) → Value
  | [_] => lineV
  | [_, a, b] => stepsV (guessNum a) (guessJump b)
  | [_, a, b, c, d] => curveV (guessNum a) (guessNum b) (guessNum c) (guessNum d)
  | _ => .nilIface

theorem easeOf_shape (ls : List (List UInt8)) (w : World) : Calls Tryd.prog 26 #[shapeV ls] w (Ans (easeV (guessE ls)) w) := by
  unfold shapeV
  split
  · exact easeOf_line w
  · exact easeOf_steps _ _ w
  · exact easeOf_curve _ _ _ _ w
  · next h1 h3 h5 =>
    have e : guessE ls = Es.zero := by
      unfold guessE
      split
      · exact (h1 _ rfl).elim
      · exact (h3 _ _ _ rfl).elim
      · exact (h5 _ _ _ _ _ rfl).elim
      · rfl
    rw [e]
    exact easeOf_none w

theorem held2_drewR {w w' : World} {b : Nat} {v0 v1 : Value} (c0 : w'.cell? ⟨b, 1, none⟩ = some v0) (c1 : w'.cell? ⟨b, 2, none⟩ = some v1) (hl : b < w'.heap.size) (hB : Below w.heap.size w w') :
    w'.drew.cell? ⟨b, 1, none⟩ = some v0 ∧ w'.drew.cell? ⟨b, 2, none⟩ = some v1 ∧ b < w'.drew.heap.size ∧ Below w.heap.size w w'.drew :=
  ⟨c0, c1, hl, ⟨hB.os, hB.tape, hB.output, hB.size, hB.block⟩⟩

theorem held2_callR {w w' w2 : World} {b : Nat} {v0 v1 : Value} (h : Below w'.heap.size w' w2) (c0 : w'.cell? ⟨b, 1, none⟩ = some v0) (c1 : w'.cell? ⟨b, 2, none⟩ = some v1) (hl : b < w'.heap.size) (hB : Below w.heap.size w w') :
    w2.cell? ⟨b, 1, none⟩ = some v0 ∧ w2.cell? ⟨b, 2, none⟩ = some v1 ∧ b < w2.heap.size ∧ Below w.heap.size w w2 :=
  ⟨(h.cell (p := ⟨b, 1, none⟩) hl).trans c0, (h.cell (p := ⟨b, 2, none⟩) hl).trans c1, Nat.lt_of_lt_of_le hl h.size, hB.trans (h.mono hB.size)⟩

theorem held4_drewR {w w' : World} {c : Nat} {v0 v1 v2 v3 : Value} (c0 : w'.cell? ⟨c, 1, none⟩ = some v0) (c1 : w'.cell? ⟨c, 2, none⟩ = some v1) (c2 : w'.cell? ⟨c, 3, none⟩ = some v2) (c3 : w'.cell? ⟨c, 4, none⟩ = some v3) (hl : c < w'.heap.size) (hB : Below w.heap.size w w') :
    w'.drew.cell? ⟨c, 1, none⟩ = some v0 ∧ w'.drew.cell? ⟨c, 2, none⟩ = some v1 ∧ w'.drew.cell? ⟨c, 3, none⟩ = some v2 ∧ w'.drew.cell? ⟨c, 4, none⟩ = some v3 ∧ c < w'.drew.heap.size ∧ Below w.heap.size w w'.drew :=
  ⟨c0, c1, c2, c3, hl, ⟨hB.os, hB.tape, hB.output, hB.size, hB.block⟩⟩

theorem held4_callR {w w' w2 : World} {c : Nat} {v0 v1 v2 v3 : Value} (g : Below w'.heap.size w' w2) (c0 : w'.cell? ⟨c, 1, none⟩ = some v0) (c1 : w'.cell? ⟨c, 2, none⟩ = some v1) (c2 : w'.cell? ⟨c, 3, none⟩ = some v2) (c3 : w'.cell? ⟨c, 4, none⟩ = some v3) (hl : c < w'.heap.size) (hB : Below w.heap.size w w') :
    w2.cell? ⟨c, 1, none⟩ = some v0 ∧ w2.cell? ⟨c, 2, none⟩ = some v1 ∧ w2.cell? ⟨c, 3, none⟩ = some v2 ∧ w2.cell? ⟨c, 4, none⟩ = some v3 ∧ c < w2.heap.size ∧ Below w.heap.size w w2 :=
  ⟨(g.cell (p := ⟨c, 1, none⟩) hl).trans c0, (g.cell (p := ⟨c, 2, none⟩) hl).trans c1, (g.cell (p := ⟨c, 3, none⟩) hl).trans c2, (g.cell (p := ⟨c, 4, none⟩) hl).trans c3, Nat.lt_of_lt_of_le hl g.size, hB.trans (g.mono hB.size)⟩

theorem guessShape_1 (g cap : Nat) (w : World) : Calls Tryd.prog 27 #[.slice (some ⟨g, 0, none⟩) 1 cap] w (Ans lineV w) := by
  go_enter Tryd.func27, Tryd.ntmps27
  go_wp2
  go_ret
  exact ⟨rfl, Below.refl _ _⟩

theorem guessShape_no (n g cap : Nat) (w : World) (h1 : n ≠ 1) (h3 : n ≠ 3) (h5 : n ≠ 5) : Calls Tryd.prog 27 #[.slice (some ⟨g, 0, none⟩) n cap] w (Ans .nilIface w) := by
  have h1' : ((n : Int) == 1) = false := by rw [beq_eq_false_iff_ne]; omega
  have h3' : ((n : Int) == 3) = false := by rw [beq_eq_false_iff_ne]; omega
  have h5' : ((n : Int) == 5) = false := by rw [beq_eq_false_iff_ne]; omega
  go_enter Tryd.func27, Tryd.ntmps27
  go_wp2
  go_ret
  exact ⟨rfl, Below.refl _ _⟩

set_option maxHeartbeats 2000000 in
theorem guessShape_3 (a b : List UInt8) (g cap : Nat) (w : World) (R : LaidR w) (k0 : w.cell? ⟨g, 1, none⟩ = some (.string ⟨a.toArray⟩)) (k1 : w.cell? ⟨g, 2, none⟩ = some (.string ⟨b.toArray⟩)) (hl : g < w.heap.size) (ha : a.length ≤ 1048576) :
    Calls Tryd.prog 27 #[.slice (some ⟨g, 0, none⟩) 3 cap] w (Ans (stepsV (guessNum a) (guessJump b)) w) := by
  have hB := Below.refl w.heap.size w
  go_enter Tryd.func27, Tryd.ntmps27
  go_wp2_with fail
  go_region_held3 (fun w' => w'.cell? ⟨g, 1, none⟩ = some (.string ⟨a.toArray⟩) ∧ w'.cell? ⟨g, 2, none⟩ = some (.string ⟨b.toArray⟩) ∧ g < w'.heap.size ∧ Below w.heap.size w w')
    (first | with_reducible exact held2_drewR k0 k1 hl hB | (go_split_ands; with_reducible exact held2_callR hb' (by assumption) (by assumption) (by assumption) (by assumption)))
    (first | (go_at_call 50; refine (guessNumber_impl _ _ (R.on ?_) ?_).mono ?_; (go_split_ands; assumption); assumption; rintro e w' ⟨rfl, hb'⟩) | (go_at_call 51; refine (jumpOf_impl _ _ (R.on ?_).show').mono ?_; (go_split_ands; assumption); rintro e w' ⟨rfl, hb'⟩))
  all_goals
    rename_i hS
    obtain ⟨_, _, _, hB'⟩ := hS
    go_wp2
    go_ret
    exact ⟨rfl, hB'⟩

set_option maxHeartbeats 2000000 in
theorem guessShape_5 (a b c d : List UInt8) (g cap : Nat) (w : World) (R : LaidR w) (k0 : w.cell? ⟨g, 1, none⟩ = some (.string ⟨a.toArray⟩)) (k1 : w.cell? ⟨g, 2, none⟩ = some (.string ⟨b.toArray⟩)) (k2 : w.cell? ⟨g, 3, none⟩ = some (.string ⟨c.toArray⟩)) (k3 : w.cell? ⟨g, 4, none⟩ = some (.string ⟨d.toArray⟩)) (hl : g < w.heap.size)
    (ha : a.length ≤ 1048576) (hb : b.length ≤ 1048576) (hc : c.length ≤ 1048576) (hd : d.length ≤ 1048576) :
    Calls Tryd.prog 27 #[.slice (some ⟨g, 0, none⟩) 5 cap] w (Ans (curveV (guessNum a) (guessNum b) (guessNum c) (guessNum d)) w) := by
  have hB := Below.refl w.heap.size w
  go_enter Tryd.func27, Tryd.ntmps27
  go_wp2_with fail
  go_region_held3 (fun w' => w'.cell? ⟨g, 1, none⟩ = some (.string ⟨a.toArray⟩) ∧ w'.cell? ⟨g, 2, none⟩ = some (.string ⟨b.toArray⟩) ∧ w'.cell? ⟨g, 3, none⟩ = some (.string ⟨c.toArray⟩) ∧ w'.cell? ⟨g, 4, none⟩ = some (.string ⟨d.toArray⟩) ∧ g < w'.heap.size ∧ Below w.heap.size w w')
    (first | with_reducible exact held4_drewR k0 k1 k2 k3 hl hB | (go_split_ands; with_reducible exact held4_callR hb' (by assumption) (by assumption) (by assumption) (by assumption) (by assumption) (by assumption)))
    (first | (go_at_call 50; refine (guessNumber_impl _ _ (R.on ?_) ?_).mono ?_; (go_split_ands; assumption); assumption; rintro e w' ⟨rfl, hb'⟩))
  all_goals
    rename_i hS
    obtain ⟨_, _, _, _, _, hB'⟩ := hS
    go_wp2
    go_ret
    exact ⟨rfl, hB'⟩

theorem guessShape_impl (ls : List (List UInt8)) (n g cap : Nat) (w : World) (hn : ls.length = n) (R : LaidR w) (hc : ∀ k l, ls[k]? = some l → w.cell? ⟨g, k, none⟩ = some (.string ⟨l.toArray⟩)) (hg : g < w.heap.size) (hl : ∀ l ∈ ls, l.length ≤ 1048576) :
    Calls Tryd.prog 27 #[.slice (some ⟨g, 0, none⟩) n cap] w (Ans (shapeV ls) w) := by
  subst hn
  unfold shapeV
  split
  · exact guessShape_1 g cap w
  · next a b => exact guessShape_3 a b g cap w R (hc 1 a rfl) (hc 2 b rfl) hg (hl a (by simp))
  · next a b c d => exact guessShape_5 a b c d g cap w R (hc 1 a rfl) (hc 2 b rfl) (hc 3 c rfl) (hc 4 d rfl) hg (hl a (by simp)) (hl b (by simp)) (hl c (by simp)) (hl d (by simp))
  · next h1 h3 h5 =>
    exact guessShape_no _ g cap w (fun e => by
      obtain ⟨a, rfl⟩ := List.length_eq_one_iff.1 e
      exact h1 a rfl) (fun e => by
      match ls, e with
      | [a, b, c], _ => exact h3 a b c rfl) (fun e => by
      match ls, e with
      | [a, b, c, d, f], _ => exact h5 a b c d f rfl)

/-- strings.SplitN by a blank, six at most. -/
theorem split_at (t : List UInt8) (w : World) (R : LaidR w) (hl : t.length ≤ 1048576) :
    Calls Tryd.prog 28 #[.string ⟨t.toArray⟩, .string ⟨#[32]⟩, .int .i64 6] w fun e w' => ∃ g n cap, e = .returned (.slice (some ⟨g, 0, none⟩) n cap) ∧ (words6 t).length = n ∧ (∀ k l, (words6 t)[k]? = some l → w'.cell? ⟨g, k, none⟩ = some (.string ⟨l.toArray⟩)) ∧ g < w'.heap.size ∧ Below w.heap.size w w' := by
  obtain ⟨m, hm⟩ := R.maxLen
  have hz : (⟨t.toArray⟩ : ByteArray).size = t.length := by
    show t.toArray.size = _
    simp
  refine (Tryd.strings_SplitN ⟨t.toArray⟩ ⟨#[32]⟩ 6 m w (by rw [hz]; omega) hm (by decide) (by decide) (by decide)).mono ?_
  rintro e w' ⟨rfl, rfl⟩
  have hd := Lib.splitB_data ⟨#[32]⟩ 0 (min 6 ((⟨t.toArray⟩ : ByteArray).size + 1) - 1) ⟨t.toArray⟩
  have hw : (Lib.splitB ⟨#[32]⟩ 0 (min 6 ((⟨t.toArray⟩ : ByteArray).size + 1) - 1) ⟨t.toArray⟩).map (·.data.toList) = words6 t := by
    rw [hd, hz]; unfold words6; simp
  refine ⟨_, _, _, rfl, by rw [← hw]; simp, fun k l hk => ?_, by simp, (Below.refl _ _).alloc (Nat.le_refl _) _⟩
  rw [← hw, List.getElem?_map] at hk
  rw [World.cell?_alloc_at _ _ _ _ rfl]
  cases hx : (Lib.splitB ⟨#[32]⟩ 0 (min 6 ((⟨t.toArray⟩ : ByteArray).size + 1) - 1) ⟨t.toArray⟩)[k]? with
  | none => rw [hx] at hk; cases hk
  | some x =>
    rw [hx] at hk
    cases hk
    unfold Lib.cellsOf
    rw [List.getElem?_toArray, List.getElem?_append_left (by simpa using (List.getElem?_eq_some_iff.1 hx).1), List.getElem?_map, hx]
    cases x
    simp

theorem cut_len : ∀ (k : Nat) (s : List UInt8), ∀ l ∈ Lib.splitK [32] 0 k s, l.length ≤ s.length
  | 0, s, l, h => by simp [Lib.splitK] at h; subst h; exact Nat.le_refl _
  | k + 1, s, l, h => by
    unfold Lib.splitK at h
    split at h
    · simp at h; subst h; exact Nat.le_refl _
    · rcases List.mem_cons.1 h with rfl | h
      · simp; omega
      · have := cut_len k _ l h
        simp at this
        omega

set_option maxRecDepth 20000 in
set_option maxHeartbeats 4000000 in
theorem ReadEase_impl (s : List UInt8) (w : World) (R : LaidR w) (hl : s.length ≤ 1048576) :
    Calls Tryd.prog 10 #[.string ⟨s.toArray⟩] w (ReadsEase s w) := by
  have HT := Lib.hid (show guessE (words6 (spell s)) = guessed s from rfl)
  obtain ⟨t, et⟩ : ∃ t, spell s = t := ⟨_, rfl⟩
  have htl : t.length ≤ 1048576 := et ▸ spell_len hl
  have HW := Lib.hid (show ∀ l ∈ words6 t, l.length ≤ 1048576 from fun l h => Nat.le_trans (cut_len _ _ l h) htl)
  have HQ := Lib.hid (show right s = ((guessed s).ok && ((guessed s).text == t)) by unfold right; rw [et])
  have HS := Lib.hid (show ∀ w', Calls Tryd.prog 25 #[.string ⟨s.toArray⟩] w' fun e w'' => e = .returned (.string ⟨t.toArray⟩) ∧ w' = w'' from fun w' => et ▸ spelledOut_impl s w')
  rw [et] at HT
  have HZ := Lib.hid htl
  clear et htl hl
  obtain ⟨E, eE⟩ : ∃ E, guessed s = E := ⟨_, rfl⟩
  rw [eE] at HT HQ
  have HE := Lib.hid eE
  clear eE
  obtain ⟨k, x1, y1, x2, y2, c, j⟩ := E
  have HB := Lib.hid R
  clear R
  go_enter Tryd.func10, Tryd.ntmps10
  go_wp2_with fail
  have hr0 : LBlk (w.alloc (.cells #[.int .i64 0, .int .i64 0, .int .i64 0, .int .i64 0, .int .i64 0, .int .i64 0, .int .i64 0] 29)) w.heap.size (easeCells Es.zero) := LBlk.new w (easeCells Es.zero) 29
  have hB0 : Below w.heap.size w (w.alloc (.cells #[.int .i64 0, .int .i64 0, .int .i64 0, .int .i64 0, .int .i64 0, .int .i64 0, .int .i64 0] 29)) := (Below.refl _ _).alloc (Nat.le_refl _) _
  generalize w.alloc (.cells #[.int .i64 0, .int .i64 0, .int .i64 0, .int .i64 0, .int .i64 0, .int .i64 0, .int .i64 0] 29) = W0 at *
  generalize hrb : w.heap.size = rb at hr0 ⊢
  have HR := Lib.hid hrb
  clear hrb
  refine (HS.out _).mono ?_
  rintro e w1 ⟨rfl, rfl⟩
  go_wp2_with fail
  refine (split_at t _ (HB.out.on hB0) HZ.out).mono ?_
  rintro e w2 ⟨g, n, cap, rfl, hn, hcs, hg, hb2⟩
  have HN := Lib.hid hn
  have HC := Lib.hid hcs
  have hr2 := hr0.below hb2
  have hB2 := hB0.trans (hb2.mono hB0.size)
  clear hn hcs hr0 hB0 hb2
  go_wp2_with fail
  refine (guessShape_impl (words6 t) n g cap _ HN.out (HB.out.on hB2) HC.out hg HW.out).mono ?_
  rintro e w3 ⟨rfl, hb3⟩
  have hr3 := hr2.below hb3
  have hB3 := hB2.trans (hb3.mono hB2.size)
  clear hr2 hB2 hb3 hg HC HN
  go_wp2_with fail
  refine (easeOf_shape (words6 t) _).mono ?_
  rintro e w4 ⟨rfl, hb4⟩
  rw [HT.out]
  unfold easeV
  dsimp only
  have hr4 := hr3.below hb4
  have hB4 := hB3.trans (hb4.mono hB3.size)
  clear hr3 hB3 hb4
  go_wp2_with fail
  have he5 : LBlk (w4.alloc (.cells #[.int .i64 k, .int .i64 x1, .int .i64 y1, .int .i64 x2, .int .i64 y2, .int .i64 c, .int .i64 j] 29)) w4.heap.size (easeCells ⟨k, x1, y1, x2, y2, c, j⟩) := LBlk.new w4 (easeCells ⟨k, x1, y1, x2, y2, c, j⟩) 29
  have hr5 := hr4.alloc (.cells #[.int .i64 k, .int .i64 x1, .int .i64 y1, .int .i64 x2, .int .i64 y2, .int .i64 c, .int .i64 j] 29)
  have hB5 := hB4.alloc hB4.size (.cells #[.int .i64 k, .int .i64 x1, .int .i64 y1, .int .i64 x2, .int .i64 y2, .int .i64 c, .int .i64 j] 29)
  have hne : rb ≠ w4.heap.size := Nat.ne_of_lt hr4.1
  generalize w4.alloc (.cells #[.int .i64 k, .int .i64 x1, .int .i64 y1, .int .i64 x2, .int .i64 y2, .int .i64 c, .int .i64 j] 29) = W5 at *
  generalize w4.heap.size = eb at *
  clear hr4 hB4
  refine (EaseOk_impl _ _ _ _ _ _ _ _).mono ?_
  rintro e w6 ⟨rfl, hb6⟩
  have he6 := he5.below hb6
  have hr6 := hr5.below hb6
  have hB6 := hB5.trans (hb6.mono hB5.size)
  clear he5 hr5 hB5 hb6
  cases hk : easeOk k x1 y1 x2 y2 c j
  · have HG := Lib.hid (guess_no (s := s) (by rw [HQ.out]; show (easeOk k x1 y1 x2 y2 c j && _) = false; rw [hk]; rfl))
    obtain ⟨r0, r1, r2, r3, r4, r5, r6, f0, f1, f2, f3, f4, f5, f6⟩ := seven_cells hr6
    clear hk
    go_wp2_with fail
    obtain ⟨c0, c1, c2, c3, c4, c5, c6, _⟩ := seven_cells (put7_blk hr6 (.int .i64 0) (.int .i64 0) (.int .i64 0) (.int .i64 0) (.int .i64 0) (.int .i64 0) (.int .i64 0))
    unfold put7 at c0 c1 c2 c3 c4 c5 c6
    exact bodyPost_ret (v := .tuple #[easeV (easeOf s), .bool (isEase s)]) (by rw [HG.out.1, HG.out.2]; simp only [results, Tryd.results10]; simp [go_sem, c0, c1, c2, c3, c4, c5, c6, easeV, Es.zero]) rfl ⟨rfl, put7_below hB6 (Nat.le_of_eq HR.out) (.int .i64 0) (.int .i64 0) (.int .i64 0) (.int .i64 0) (.int .i64 0) (.int .i64 0) (.int .i64 0)⟩
  · obtain ⟨a0, a1, a2, a3, a4, a5, a6, _⟩ := seven_cells he6
    have HK := Lib.hid hk
    clear hk
    go_wp2_with fail
    refine (ShowEase_impl _ _ _ _ _ _ _ _ (HB.out.on hB6).show').mono ?_
    rintro e w7 ⟨rfl, hb7⟩
    have he7 := he6.below hb7
    have hr7 := hr6.below hb7
    have hB7 := hB6.trans (hb7.mono hB6.size)
    clear he6 hr6 hB6 hb7 a0 a1 a2 a3 a4 a5 a6
    obtain ⟨sx, esx⟩ : ∃ sx, showEase k x1 y1 x2 y2 c j = sx := ⟨_, rfl⟩
    rw [esx]
    have HX := Lib.hid (show (⟨k, x1, y1, x2, y2, c, j⟩ : Es).text = sx from esx)
    clear esx
    obtain ⟨r0, r1, r2, r3, r4, r5, r6, f0, f1, f2, f3, f4, f5, f6⟩ := seven_cells hr7
    by_cases hx : sx = t
    · have hsame := str_same hx
      have HG := Lib.hid (guess_yes (s := s) (by rw [HQ.out, HX.out]; show (easeOk k x1 y1 x2 y2 c j && (sx == t)) = true; rw [HK.out, hsame]; rfl))
      clear hx
      obtain ⟨a0, a1, a2, a3, a4, a5, a6, _⟩ := seven_cells he7
      go_wp2_with fail
      obtain ⟨c0, c1, c2, c3, c4, c5, c6, _⟩ := seven_cells (put7_blk hr7 (.int .i64 k) (.int .i64 x1) (.int .i64 y1) (.int .i64 x2) (.int .i64 y2) (.int .i64 c) (.int .i64 j))
      unfold put7 at c0 c1 c2 c3 c4 c5 c6
      exact bodyPost_ret (v := .tuple #[easeV (easeOf s), .bool (isEase s)]) (by rw [HG.out.1, HG.out.2, HE.out]; simp only [results, Tryd.results10]; simp [go_sem, c0, c1, c2, c3, c4, c5, c6, easeV]) rfl ⟨rfl, put7_below hB7 (Nat.le_of_eq HR.out) (.int .i64 k) (.int .i64 x1) (.int .i64 y1) (.int .i64 x2) (.int .i64 y2) (.int .i64 c) (.int .i64 j)⟩
    · have hoth := str_other hx
      have HG := Lib.hid (guess_no (s := s) (by rw [HQ.out, HX.out]; show (easeOk k x1 y1 x2 y2 c j && (sx == t)) = false; rw [HK.out, hoth]; rfl))
      clear hx
      go_wp2_with fail
      obtain ⟨c0, c1, c2, c3, c4, c5, c6, _⟩ := seven_cells (put7_blk hr7 (.int .i64 0) (.int .i64 0) (.int .i64 0) (.int .i64 0) (.int .i64 0) (.int .i64 0) (.int .i64 0))
      unfold put7 at c0 c1 c2 c3 c4 c5 c6
      exact bodyPost_ret (v := .tuple #[easeV (easeOf s), .bool (isEase s)]) (by rw [HG.out.1, HG.out.2]; simp only [results, Tryd.results10]; simp [go_sem, c0, c1, c2, c3, c4, c5, c6, easeV, Es.zero]) rfl ⟨rfl, put7_below hB7 (Nat.le_of_eq HR.out) (.int .i64 0) (.int .i64 0) (.int .i64 0) (.int .i64 0) (.int .i64 0) (.int .i64 0) (.int .i64 0)⟩

end Go.Proofs.YtmaagcmbofedhaaDoor.B4
