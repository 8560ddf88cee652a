/- Contracts of chapter 5's functions (tokens): the reference's l5Text, TokenOk. Contracts of chapter 5's functions (tokens): the reference's TokenOk. Contracts of chapter 5's functions (tokens): slices of tokens; the reference's TokensOf. Contracts of chapter 5's functions (tokens): the reference's l5All, TextOf. Contracts of chapter 5's functions (tokens): the reference's l5Squeeze, Squeezed. Contracts of chapter 5's functions (tokens): the reference's Squeezed. -/
import Derived.Test.YtliihnkonakacaaGreatDoorBase5
import Derived.Test.YtliihnkonakacaaGreatDoorFound
import Derived.Deep.RegionHeld3
import Derived.Maps.AppendAt
import Derived.Deep.LoopGhost
namespace Go.Proofs.YtliihnkonakacaaGreatDoor.B5
open Go.Proofs.YtliihnkonakacaaGreatDoor.P1 Go.Proofs.YtliihnkonakacaaGreatDoor.B1 Go.Proofs.YtliihnkonakacaaGreatDoor.B2 Go.Proofs.YtliihnkonakacaaGreatDoor.T1 Go.Proofs.YtliihnkonakacaaGreatDoor.BT Go.Proofs.YtliihnkonakacaaGreatDoor.P5 Go.Proofs.YtliihnkonakacaaGreatDoor.D1
open Go.ChangeShapes Go.WideShapes Go.ChangeAt Go.RowKit
set_option linter.unusedVariables false

theorem str_addT (x y s : List UInt8) (h : x ++ y = s) (hl : s.length ≤ 4000000) (w : World) : (Op.stringOp .add ⟨x.toArray⟩ ⟨y.toArray⟩).run Tryz.prog w = .ok (.string ⟨s.toArray⟩) w := by
  subst h
  exact str_add x y w (by simp at hl; omega)

theorem held12_drew {w w' : World} {b : Nat} {v1 v2 : Value} (c1 : w'.cell? ⟨b, 1, none⟩ = some v1) (c2 : w'.cell? ⟨b, 2, none⟩ = some v2) (hl : b < w'.heap.size) (hB : Below w.heap.size w w') :
    w'.drew.cell? ⟨b, 1, none⟩ = some v1 ∧ w'.drew.cell? ⟨b, 2, none⟩ = some v2 ∧ b < w'.drew.heap.size ∧ Below w.heap.size w w'.drew :=
  ⟨c1, c2, hl, ⟨hB.os, hB.tape, hB.output, hB.size, hB.block⟩⟩

theorem held12_call {w w' w2 : World} {b : Nat} {v1 v2 : Value} (h : Below w'.heap.size w' w2) (c1 : w'.cell? ⟨b, 1, none⟩ = some v1) (c2 : w'.cell? ⟨b, 2, none⟩ = some v2) (hl : b < w'.heap.size) (hB : Below w.heap.size w w') :
    w2.cell? ⟨b, 1, none⟩ = some v1 ∧ w2.cell? ⟨b, 2, none⟩ = some v2 ∧ b < w2.heap.size ∧ Below w.heap.size w w2 :=
  ⟨(h.cell (p := ⟨b, 1, none⟩) hl).trans c1, (h.cell (p := ⟨b, 2, none⟩) hl).trans c2, Nat.lt_of_lt_of_le hl h.size, hB.trans (h.mono hB.size)⟩

theorem three_new {w w1 : World} (v0 v1 v2 : Value) (t : TypeId) (hb : Below w.heap.size w w1) :
    (w1.alloc (.cells #[v0, v1, v2] t)).cell? ⟨w1.heap.size, 0, none⟩ = some v0 ∧ (w1.alloc (.cells #[v0, v1, v2] t)).cell? ⟨w1.heap.size, 1, none⟩ = some v1 ∧ (w1.alloc (.cells #[v0, v1, v2] t)).cell? ⟨w1.heap.size, 2, none⟩ = some v2 ∧ w1.heap.size < (w1.alloc (.cells #[v0, v1, v2] t)).heap.size ∧ Below w.heap.size w (w1.alloc (.cells #[v0, v1, v2] t)) :=
  ⟨by simp, by simp, by simp, by simp, hb.alloc hb.size _⟩

theorem text_kinds (x : Tok) : (x.k = 2 ∨ x.k = 3) ∨ x.k = 4 ∨ x.k = 5 ∨ (x.k ≠ 2 ∧ x.k ≠ 3 ∧ x.k ≠ 4 ∧ x.k ≠ 5) := by omega

theorem itoa_short {n : Int} (h0 : -9223372036854775808 ≤ n) (h1 : n ≤ 9223372036854775807) : (Lib.itoa n).length ≤ 21 := by
  unfold Lib.itoa
  split
  · have := dec_length n.natAbs 19 (by omega)
    simp; omega
  · have := dec_length n.toNat 19 (by omega)
    omega

set_option maxHeartbeats 2000000 in
theorem Text_spec (x : Tok) (w : World) (h0 : -9223372036854775808 ≤ x.n) (h1 : x.n ≤ 9223372036854775807) (hl : x.t.length ≤ 1048576) :
    Calls Tryz.prog 146 #[tokV x] w (Ans (.string ⟨(tokText x).toArray⟩) w) := by
  obtain ⟨k, t, n⟩ := x
  have hkind := text_kinds ⟨k, t, n⟩
  unfold tokV
  dsimp only at h0 h1 hl hkind ⊢
  rcases hkind with hk | rfl | rfl | ⟨k2, k3, k4, k5⟩
  · have il := itoa_short h0 h1
    obtain ⟨s, es⟩ : ∃ s, Lib.itoa n ++ t = s := ⟨_, rfl⟩
    have hadd := str_addT _ _ _ es (by rw [← es, List.length_append]; omega)
    have Hx := Lib.hid (show tokText ⟨k, t, n⟩ = s by unfold tokText; rw [if_pos hk]; exact es)
    have hk2 : (k == 2) = true ∨ ((k == 2) = false ∧ (k == 3) = true) := by
      rcases hk with rfl | rfl
      · exact Or.inl rfl
      · exact Or.inr ⟨rfl, rfl⟩
    clear es hk il
    rcases hk2 with hk2 | ⟨hk2, hk3⟩
    all_goals
      go_enter Tryz.func146, Tryz.ntmps146
      have hn := three_new (.int .i64 k) (.string ⟨t.toArray⟩) (.int .i64 n) 73 (Below.refl w.heap.size w)
      go_wp2_with fail
      obtain ⟨_, c1, c2, hlt, hB⟩ := hn
      generalize w.alloc (.cells #[.int .i64 k, .string ⟨t.toArray⟩, .int .i64 n] 73) = W at *
      generalize hbz : w.heap.size = b at c1 c2 hlt ⊢
      clear hbz
      go_region_held3 (fun w' => w'.cell? ⟨b, 1, none⟩ = some (.string ⟨t.toArray⟩) ∧ w'.cell? ⟨b, 2, none⟩ = some (.int .i64 n) ∧ b < w'.heap.size ∧ Below w.heap.size w w')
        (first | with_reducible exact held12_drew c1 c2 hlt hB | (go_split_ands; with_reducible exact held12_call hb' (by assumption) (by assumption) (by assumption) (by assumption)))
        (first | (go_at_call 169; refine (Int_spec _ _ ⟨by omega, by omega⟩).mono ?_; rintro e w' ⟨rfl, hb'⟩))
      rename_i hS
      obtain ⟨_, _, _, hB'⟩ := hS
      clear hadd
      go_wp2
      go_ret
      exact ⟨by rw [Hx.out]; rfl, hB'⟩
  · obtain ⟨s, es⟩ : ∃ s, [35] ++ t = s := ⟨_, rfl⟩
    have hadd := str_addT _ _ _ es (by rw [← es, List.length_append]; simp; omega)
    have Hx := Lib.hid (show tokText ⟨4, t, n⟩ = s by rw [← es]; rfl)
    clear es
    go_enter Tryz.func146, Tryz.ntmps146
    go_wp2
    go_ret
    exact ⟨by rw [Hx.out]; rfl, (Below.refl _ _).alloc (Nat.le_refl _) _⟩
  · have Hx := Lib.hid (show tokText ⟨5, t, n⟩ = [32] from rfl)
    go_enter Tryz.func146, Tryz.ntmps146
    go_wp2
    go_ret
    exact ⟨by rw [Hx.out]; rfl, (Below.refl _ _).alloc (Nat.le_refl _) _⟩
  · have Hx := Lib.hid (show tokText ⟨k, t, n⟩ = t by unfold tokText; rw [if_neg (by simp [k2, k3]), if_neg k4, if_neg k5])
    have e2 : (k == 2) = false := by simpa using k2
    have e3 : (k == 3) = false := by simpa using k3
    have e4 : (k == 4) = false := by simpa using k4
    have e5 : (k == 5) = false := by simpa using k5
    go_enter Tryz.func146, Tryz.ntmps146
    go_wp2
    go_ret
    exact ⟨by rw [Hx.out]; rfl, (Below.refl _ _).alloc (Nat.le_refl _) _⟩

theorem eq_token (k n k' n' : Int) (t t' : List UInt8) (w : World) : (Op.equalIn 10000 73 (.agg #[.int .i64 k, .string ⟨t.toArray⟩, .int .i64 n]) (.agg #[.int .i64 k', .string ⟨t'.toArray⟩, .int .i64 n'])).run Tryz.prog w = .ok (Tok.same ⟨k, t, n⟩ ⟨k', t', n'⟩) w := by
  have u3 := Tryz.underlying2
  have a3 := Tryz.isAgg2
  have z3 := Tryz.sizeOf2
  have u9 := Tryz.underlying9
  have a9 := Tryz.isAgg9
  have z9 := Tryz.sizeOf9
  unfold Tok.same
  by_cases h1 : k = k' <;> by_cases h2 : t = t' <;> by_cases h3 : n = n'
  all_goals go_simp

end Go.Proofs.YtliihnkonakacaaGreatDoor.B5

namespace Go.Proofs.YtliihnkonakacaaGreatDoor.B5
open Go.Proofs.YtliihnkonakacaaGreatDoor.P1 Go.Proofs.YtliihnkonakacaaGreatDoor.B1 Go.Proofs.YtliihnkonakacaaGreatDoor.B2 Go.Proofs.YtliihnkonakacaaGreatDoor.T1 Go.Proofs.YtliihnkonakacaaGreatDoor.BT Go.Proofs.YtliihnkonakacaaGreatDoor.P5 Go.Proofs.YtliihnkonakacaaGreatDoor.D1
open Go.ChangeShapes Go.WideShapes Go.ChangeAt Go.RowKit
set_option linter.unusedVariables false

theorem tokOk_out {x : Tok} (h : within x.n (-999999999) 999999999 = false) : tokOk x = false := by
  unfold tokOk
  unfold within at h
  rw [h]; rfl

theorem tokOk_long {x : Tok} (h : 4000 < x.t.length) : tokOk x = false := by
  unfold tokOk
  rw [show decide (x.t.length ≤ 4000) = false by simp; omega]
  simp

theorem tokOk_empty {x : Tok} (h : tokText x = []) : tokOk x = false := by
  unfold tokOk
  rw [h]
  simp

theorem tokOk_in {x : Tok} {s : List UInt8} (h : within x.n (-999999999) 999999999 = true) (hl : x.t.length ≤ 4000) (hs : tokText x = s) (hne : s ≠ []) : tokOk x = ((nextTok s).1.same x && ((((nextTok s).2 : Nat) : Int) == (s.length : Int))) := by
  unfold tokOk
  unfold within at h
  rw [h, show decide (x.t.length ≤ 4000) = true by simpa using hl, hs]
  cases s with
  | nil => exact absurd rfl hne
  | cons b t =>
    have : ((((nextTok (b :: t)).2 : Nat) : Int) == ((b :: t).length : Int)) = decide ((nextTok (b :: t)).2 = (b :: t).length) := by
      rw [Bool.eq_iff_iff]
      simp only [beq_iff_eq, decide_eq_true_eq]
      omega
    rw [this]
    simp

theorem text_len {x : Tok} (h0 : -9223372036854775808 ≤ x.n) (h1 : x.n ≤ 9223372036854775807) : (tokText x).length ≤ x.t.length + 22 := by
  have := itoa_short h0 h1
  unfold tokText
  split
  · rw [List.length_append]; omega
  · split
    · simp
    · split
      · simp
      · omega

theorem three_call {w w2 : World} {h : Nat} {v0 v1 v2 : Value} (g : Below w.heap.size w w2) (hl : h < w.heap.size) (c0 : w.cell? ⟨h, 0, none⟩ = some v0) (c1 : w.cell? ⟨h, 1, none⟩ = some v1) (c2 : w.cell? ⟨h, 2, none⟩ = some v2) :
    w2.cell? ⟨h, 0, none⟩ = some v0 ∧ w2.cell? ⟨h, 1, none⟩ = some v1 ∧ w2.cell? ⟨h, 2, none⟩ = some v2 ∧ h < w2.heap.size :=
  ⟨(g.cell (p := ⟨h, 0, none⟩) hl).trans c0, (g.cell (p := ⟨h, 1, none⟩) hl).trans c1, (g.cell (p := ⟨h, 2, none⟩) hl).trans c2, Nat.lt_of_lt_of_le hl g.size⟩

set_option maxHeartbeats 2000000 in
theorem TokenOk_spec (x : Tok) (w : World) (h0 : -9223372036854775808 ≤ x.n) (h1 : x.n ≤ 9223372036854775807) (hl : x.t.length ≤ 1048576) :
    Calls Tryz.prog 99 #[tokV x] w (Ans (.bool (tokOk x)) w) := by
  have HT := Lib.hid (fun w' => Text_spec x w' h0 h1 hl)
  have htl := text_len h0 h1
  obtain ⟨L, eL⟩ : ∃ L, x.t.length = L := ⟨_, rfl⟩
  have hlen := fun (w' : World) (t : TypeId) => str_lenN x.t L eL w' t
  have hL1 : (L : Int) ≤ 1048576 := by omega
  cases hw : within x.n (-999999999) 999999999
  · have Hx := Lib.hid (tokOk_out hw)
    obtain ⟨k, t, n⟩ := x
    unfold tokV at HT ⊢
    dsimp only at HT hw hlen ⊢
    go_enter Tryz.func99, Tryz.ntmps99
    go_wp2_with (go_at_call 59; refine (in_spec _ _ _ _).mono ?_; rintro e w' ⟨rfl, rfl⟩)
    go_ret
    exact ⟨by rw [Hx.out]; rfl, (Below.refl _ _).alloc (Nat.le_refl _) _⟩
  · by_cases hlong : 4000 < L
    · have Hx := Lib.hid (tokOk_long (x := x) (by omega))
      have hlong' : (4000 : Int) < (L : Int) := by omega
      obtain ⟨k, t, n⟩ := x
      unfold tokV at HT ⊢
      dsimp only at HT hw hlen ⊢
      go_enter Tryz.func99, Tryz.ntmps99
      go_wp2_with (go_at_call 59; refine (in_spec _ _ _ _).mono ?_; rintro e w' ⟨rfl, rfl⟩)
      go_ret
      exact ⟨by rw [Hx.out]; rfl, (Below.refl _ _).alloc (Nat.le_refl _) _⟩
    · have hlong' : ¬ (4000 : Int) < (L : Int) := by omega
      obtain ⟨s, es⟩ : ∃ s, tokText x = s := ⟨_, rfl⟩
      rw [es] at HT htl
      by_cases hs : s = []
      · have Hx := Lib.hid (tokOk_empty (x := x) (es.trans hs))
        have hse : (s == []) = true := by rw [hs]; rfl
        obtain ⟨k, t, n⟩ := x
        unfold tokV at HT ⊢
        dsimp only at HT hw hlen ⊢
        clear es hs htl
        go_enter Tryz.func99, Tryz.ntmps99
        go_wp2_with (first | (go_at_call 59; refine (in_spec _ _ _ _).mono ?_; rintro e w' ⟨rfl, rfl⟩) | (go_at_call 146; refine (HT.out _).mono ?_; rintro e w1 ⟨rfl, g1⟩))
        go_ret
        exact ⟨by rw [Hx.out]; rfl, Below.box g1⟩
      · have Hx := Lib.hid (tokOk_in (x := x) hw (by omega) es hs)
        have hse : (s == []) = false := by simpa using hs
        have hpos : 0 < s.length := by cases s with | nil => exact absurd rfl hs | cons b r => simp
        have HN := Lib.hid (fun w' => Next_spec s 0 w' hpos (by omega))
        rw [show s.drop 0 = s from rfl] at HN
        obtain ⟨S, eS⟩ : ∃ S, s.length = S := ⟨_, rfl⟩
        have hlenS := fun (w' : World) (t : TypeId) => str_lenN s S eS w' t
        rw [eS] at Hx
        obtain ⟨y, ey⟩ : ∃ y, (nextTok s).1 = y := ⟨_, rfl⟩
        obtain ⟨m, em⟩ : ∃ m, (nextTok s).2 = m := ⟨_, rfl⟩
        rw [ey, em] at Hx HN
        have heq := fun w' => eq_token y.k y.n x.k x.n y.t x.t w'
        obtain ⟨k, t, n⟩ := x
        obtain ⟨k', t', n'⟩ := y
        unfold tokV at HT ⊢
        unfold Nexts tokV at HN
        dsimp only at HT HN hw hlen heq ⊢
        rw [Nat.zero_add] at HN
        clear es hs htl eS ey em eL
        cases hsame : Tok.same ⟨k', t', n'⟩ ⟨k, t, n⟩
        · rw [hsame] at heq Hx
          go_enter Tryz.func99, Tryz.ntmps99
          have hn := three_new (.int .i64 k) (.string ⟨t.toArray⟩) (.int .i64 n) 73 (Below.refl w.heap.size w)
          obtain ⟨c0, c1, c2, hlt, hB⟩ := hn
          go_wp2_with (first | (go_at_call 59; refine (in_spec _ _ _ _).mono ?_; rintro e w' ⟨rfl, rfl⟩) | (go_at_call 146; refine (HT.out _).mono ?_; rintro e w1 ⟨rfl, g1⟩; obtain ⟨c0', c1', c2', hlt'⟩ := three_call g1 hlt c0 c1 c2) | (go_at_call 60; refine (HN.out _).mono ?_; rintro e w2 ⟨rfl, g2⟩; obtain ⟨c0'', c1'', c2'', hlt''⟩ := three_call g2 hlt' c0' c1' c2'))
          go_ret
          have hB2 := hB.trans (g1.mono hB.size)
          have hB3 := hB2.trans (g2.mono hB2.size)
          exact ⟨by rw [Hx.out]; rfl, hB3.alloc hB3.size _⟩
        · rw [hsame] at heq Hx
          go_enter Tryz.func99, Tryz.ntmps99
          have hn := three_new (.int .i64 k) (.string ⟨t.toArray⟩) (.int .i64 n) 73 (Below.refl w.heap.size w)
          obtain ⟨c0, c1, c2, hlt, hB⟩ := hn
          go_wp2_with (first | (go_at_call 59; refine (in_spec _ _ _ _).mono ?_; rintro e w' ⟨rfl, rfl⟩) | (go_at_call 146; refine (HT.out _).mono ?_; rintro e w1 ⟨rfl, g1⟩; obtain ⟨c0', c1', c2', hlt'⟩ := three_call g1 hlt c0 c1 c2) | (go_at_call 60; refine (HN.out _).mono ?_; rintro e w2 ⟨rfl, g2⟩; obtain ⟨c0'', c1'', c2'', hlt''⟩ := three_call g2 hlt' c0' c1' c2'))
          go_ret
          have hB2 := hB.trans (g1.mono hB.size)
          have hB3 := hB2.trans (g2.mono hB2.size)
          exact ⟨by rw [Hx.out]; rfl, hB3.alloc hB3.size _⟩

end Go.Proofs.YtliihnkonakacaaGreatDoor.B5

namespace Go.Proofs.YtliihnkonakacaaGreatDoor.B5
open Go.Proofs.YtliihnkonakacaaGreatDoor.P1 Go.Proofs.YtliihnkonakacaaGreatDoor.B1 Go.Proofs.YtliihnkonakacaaGreatDoor.B2 Go.Proofs.YtliihnkonakacaaGreatDoor.T1 Go.Proofs.YtliihnkonakacaaGreatDoor.BT Go.Proofs.YtliihnkonakacaaGreatDoor.P5 Go.Proofs.YtliihnkonakacaaGreatDoor.D1
open Go.ChangeShapes Go.WideShapes Go.ChangeAt Go.RowKit
set_option linter.unusedVariables false

/-- The cells of a token, of a list of tokens. -/
def tokC (x : Tok) : List Value := [.int .i64 x.k, .string ⟨x.t.toArray⟩, .int .i64 x.n]
def toksC (ts : List Tok) : List Value := ts.flatMap tokC

theorem toksC_len (ts : List Tok) : (toksC ts).length = ts.length * 3 := by
  induction ts with
  | nil => rfl
  | cons x t ih => simp only [toksC, List.flatMap_cons, List.length_append, List.length_cons] at ih ⊢; rw [ih]; simp [tokC]; omega

theorem toksC_more (ts : List Tok) (x : Tok) : toksC (ts ++ [x]) = toksC ts ++ tokC x := by simp [toksC]

theorem toksC_at : ∀ {ts : List Tok} {i : Nat} {x : Tok}, ts[i]? = some x → (toksC ts)[i * 3]? = some (.int .i64 x.k) ∧ (toksC ts)[i * 3 + 1]? = some (.string ⟨x.t.toArray⟩) ∧ (toksC ts)[i * 3 + 2]? = some (.int .i64 x.n)
  | [], _, _, h => by simp at h
  | y :: t, 0, x, h => by
    have : y = x := by simpa using h
    subst this
    exact ⟨rfl, rfl, rfl⟩
  | y :: t, i + 1, x, h => by
    have ih := toksC_at (ts := t) (i := i) (x := x) (by simpa using h)
    have e : toksC (y :: t) = tokC y ++ toksC t := by simp [toksC]
    rw [e, show (i + 1) * 3 = i * 3 + 3 by omega, show i * 3 + 3 + 1 = (i * 3 + 1) + 3 by omega, show i * 3 + 3 + 2 = (i * 3 + 2) + 3 by omega]
    exact ⟨by rw [List.getElem?_append_right (by simp [tokC])]; simpa [tokC] using ih.1, by rw [List.getElem?_append_right (by simp [tokC])]; simpa [tokC] using ih.2.1, by rw [List.getElem?_append_right (by simp [tokC])]; simpa [tokC] using ih.2.2⟩

/-- A slice of tokens of the call's own. -/
def Toks (w : World) (v : Value) (B : Nat) (ts : List Tok) : Prop := w.ownsRow B 73 3 v ts.length (toksC ts)

theorem toks_more {w : World} {v : Value} {B : Nat} {ts : List Tok} {x : Tok} (h : w.ownsRow B 73 3 v (ts.length + 1) (toksC ts ++ [.int .i64 x.k, .string ⟨x.t.toArray⟩, .int .i64 x.n])) : Toks w v B (ts ++ [x]) := by
  unfold Toks
  rw [List.length_append, toksC_more]; exact h

theorem cell_three_new (w : World) (v0 v1 v2 : Value) (t : TypeId) : ∀ j u, [v0, v1, v2][j]? = some u → (w.alloc (.cells #[v0, v1, v2] t)).cell? ((⟨w.heap.size, 0, none⟩ : Addr).add j) = some u := by
  intro j u hj
  have : ((⟨w.heap.size, 0, none⟩ : Addr).add j) = ⟨w.heap.size, j, none⟩ := by rw [add_plain, Nat.zero_add]
  rw [this, World.cell?_alloc_at _ _ _ _ rfl]
  rcases j with _ | _ | _ | j
  · simpa using hj
  · simpa using hj
  · simpa using hj
  · simp at hj

theorem infoTok : (Tryz.prog.info? 73).map (fun i => (i.zero, i.size, i.bytes)) = some (some (.agg #[.int .i64 0, .string ⟨#[]⟩, .int .i64 0]), 3, 32) := by kernel_rfl

theorem next_len {r : List UInt8} (h : r ≠ []) : (nextTok r).2 ≤ r.length := by
  cases r with
  | nil => exact absurd rfl h
  | cons b t =>
    cases hs : isSpace b
    · exact next_le h (fun c hc => by have : b = c := by simpa using hc
                                      rw [← this]; exact hs)
    · rw [next_space hs]; exact tw_le _ _

/-- What TokensOf answers. -/
def Tokens (l : List UInt8) (w : World) (e : Ending) (w' : World) : Prop := ∃ v, e = .returned v ∧ Toks w' v w.heap.size (tokensOf l) ∧ Below w.heap.size w w'

theorem toks_len : ∀ (n : Nat) (r : List UInt8), r.length ≤ n → (toks r).length ≤ r.length
  | 0, r, h => by
    have : r = [] := List.length_eq_zero_iff.1 (by omega)
    subst this; exact Nat.le_refl _
  | n + 1, r, h => by
    by_cases hr : r = []
    · subst hr; exact Nat.le_refl _
    · have hp : 0 < r.length := List.length_pos_iff.2 hr
      have h1 := next_pos r
      have h2 := next_len hr
      have := toks_len n (r.drop (nextTok r).2) (by rw [List.length_drop]; omega)
      rw [List.length_drop] at this
      rw [toks_cons hr, List.length_cons]
      omega

set_option maxRecDepth 20000 in
set_option maxHeartbeats 2000000 in
theorem TokensOf_spec (l : List UInt8) (w : World) (hl : l.length ≤ 1048576) :
    Calls Tryz.prog 21 #[.string ⟨l.toArray⟩] w (Tokens l w) := by
  obtain ⟨i0, hi, hz0, hz1, hz2⟩ := info_parts infoTok
  obtain ⟨L, eL⟩ : ∃ L, l.length = L := ⟨_, rfl⟩
  have hlen := fun (w' : World) (t : TypeId) => str_lenN l L eL w' t
  have hL1 : (L : Int) ≤ 1048576 := by omega
  have HLen := Lib.hid eL
  have HL := Lib.hid hl
  by_cases hbig : 4000 < L
  · have hbig' : ¬ (L : Int) ≤ 4000 := by omega
    have hpos : (0 : Int) < (L : Int) := by omega
    have Hx := Lib.hid (show tokensOf l = [] by unfold tokensOf; rw [if_pos (by omega)])
    clear hl eL
    go_enter Tryz.func21, Tryz.ntmps21
    go_wp2
    go_loopg [3, 4] 0 (fun kx s3 s4 wr => s4 = .int .i64 0 ∧ Toks wr s3 w.heap.size [] ∧ Below w.heap.size w wr)
    case atStart => exact ⟨rfl, World.ownsRow_lit w #[] 0 (Nat.le_refl _) (by decide) rfl, (Below.refl _ _).alloc (Nat.le_refl _) _⟩
    case round =>
      obtain ⟨rfl, hown, hB⟩ := hrel
      go_wp2
      go_ret
      exact ⟨_, rfl, by rw [Hx.out]; exact hown, hB⟩
  · have hsm : (L : Int) ≤ 4000 := by omega
    have HX := Lib.hid (show tokensOf l = toks l by unfold tokensOf; rw [if_neg (by omega)])
    clear hl eL
    go_enter Tryz.func21, Tryz.ntmps21
    go_wp2
    go_loopg [3, 4] L (fun kx s3 s4 wr => ∃ (a : Nat) (done : List Tok), s4 = .int .i64 (a : Int) ∧ kx + a = L ∧ Toks wr s3 w.heap.size done ∧ Hid (toks l = done ++ toks (l.drop a)) ∧ Below w.heap.size w wr)
    case atStart => exact ⟨0, [], rfl, by omega, World.ownsRow_lit w #[] 0 (Nat.le_refl _) (by decide) rfl, Lib.hid rfl, (Below.refl _ _).alloc (Nat.le_refl _) _⟩
    case round =>
      obtain ⟨a, done, rfl, hk, hown, I, hB⟩ := hrel
      by_cases hlt : a < L
      · have hlt' : (a : Int) < (L : Int) := by omega
        have hne : l.drop a ≠ [] := fun e => by
          have := congrArg List.length e
          rw [List.length_drop, HLen.out] at this
          simp at this; omega
        have hn1 := next_pos (l.drop a)
        have hn2 := next_len hne
        rw [List.length_drop, HLen.out] at hn2
        have hfew : done.length ≤ 4000 := by
          have h3 := toks_len l.length l (Nat.le_refl _)
          rw [I.out, List.length_append, HLen.out] at h3
          omega
        have HI := Lib.hid (show toks l = (done ++ [(nextTok (l.drop a)).1]) ++ toks (l.drop (a + (nextTok (l.drop a)).2)) by
          rw [I.out, toks_cons hne, List.drop_drop, List.append_assoc]; rfl)
        have HN := Lib.hid (fun w' => Next_spec l a w' (by rw [HLen.out]; exact hlt) HL.out)
        obtain ⟨x, ex⟩ : ∃ x, (nextTok (l.drop a)).1 = x := ⟨_, rfl⟩
        obtain ⟨m, em⟩ : ∃ m, (nextTok (l.drop a)).2 = m := ⟨_, rfl⟩
        rw [ex, em] at HI HN
        rw [em] at hn1 hn2
        obtain ⟨A, eA⟩ : ∃ A, a + m = A := ⟨_, rfl⟩
        rw [eA] at HI
        unfold Nexts at HN
        rw [eA] at HN
        clear ex em I
        obtain ⟨k, t, n⟩ := x
        unfold tokV at HN
        dsimp only at HN
        go_wp2_with fail
        refine (HN.out _).mono ?_
        rintro e w2 ⟨rfl, g2⟩
        have hown2 := own_below hown g2
        have hB2 := hB.trans (g2.mono hB.size)
        go_wp2_with (at_builtin; refine wpList_append_own _ rfl _ _ 27 rfl w.heap.size 73 i0 _ 3 32 Tryz.underlying27 hi hz0 hz1 hz2 rfl (by decide) _ done.length (toksC done) rfl (World.ownsRow.alloc (World.ownsRow.alloc hown2 _) _) ⟨(w2.alloc (.cells #[.int .i64 k, .string ⟨t.toArray⟩, .int .i64 n] 73)).heap.size, 0, none⟩ 1 1 [.int .i64 k, .string ⟨t.toArray⟩, .int .i64 n] (by rw [World.size_alloc]; rfl) rfl (cell_three_new _ _ _ _ _) (by simp [Value.oneCell']) (by simp [maxLen]; omega) (by omega) (by have := hB2.size; simp; omega) ?_; intro v4 w4 hown4 hgrow4 _)
        go_roundg (L - A)
        case measure => omega
        case rel => exact ⟨A, done ++ [⟨k, t, n⟩], by first | rfl | go_num, by omega, toks_more hown4, HI, ((hB2.alloc hB2.size _).alloc (hB2.alloc hB2.size _).size _).grown hgrow4 (by have := hB2.size; simp; omega) (fun k hk => (World.ownsRow.lt hown k hk).1)⟩
      · obtain rfl : a = L := by omega
        have hlt' : ¬ (a : Int) < (a : Int) := by omega
        have HD := Lib.hid (show toks l = done by rw [I.out, List.drop_of_length_le (by rw [HLen.out]; exact Nat.le_refl _), toks_nil, List.append_nil])
        go_wp2
        go_ret
        exact ⟨_, rfl, by rw [HX.out, HD.out]; exact hown, hB⟩

end Go.Proofs.YtliihnkonakacaaGreatDoor.B5

namespace Go.Proofs.YtliihnkonakacaaGreatDoor.B5
open Go.Proofs.YtliihnkonakacaaGreatDoor.P1 Go.Proofs.YtliihnkonakacaaGreatDoor.B1 Go.Proofs.YtliihnkonakacaaGreatDoor.B2 Go.Proofs.YtliihnkonakacaaGreatDoor.T1 Go.Proofs.YtliihnkonakacaaGreatDoor.BT Go.Proofs.YtliihnkonakacaaGreatDoor.P5 Go.Proofs.YtliihnkonakacaaGreatDoor.D1
open Go.ChangeShapes Go.WideShapes Go.ChangeAt Go.RowKit
set_option linter.unusedVariables false

/-- A slice that holds these tokens. -/
structure TokRow (w : World) (g cap : Nat) (ts : List Tok) : Prop where
  cells : ∀ i x, ts[i]? = some x → w.cell? ⟨g, i * 3, none⟩ = some (.int .i64 x.k) ∧ w.cell? ⟨g, i * 3 + 1, none⟩ = some (.string ⟨x.t.toArray⟩) ∧ w.cell? ⟨g, i * 3 + 2, none⟩ = some (.int .i64 x.n)
  room : ts.length ≤ cap
  top : cap ≤ 9223372036854775807
  lt : g < w.heap.size

/-- Numbers and texts as a Go program has them, within the bounds that a law draws. -/
def TokFit (x : Tok) : Prop := -9223372036854775808 ≤ x.n ∧ x.n ≤ 9223372036854775807 ∧ x.t.length ≤ 1048576

theorem TokRow.on {w w' : World} {g cap : Nat} {ts : List Tok} (h : TokRow w g cap ts) (hb : Below w.heap.size w w') : TokRow w' g cap ts :=
  ⟨fun i x hx => by
    obtain ⟨c0, c1, c2⟩ := h.cells i x hx
    exact ⟨(hb.cell (p := ⟨g, i * 3, none⟩) h.lt).trans c0, (hb.cell (p := ⟨g, i * 3 + 1, none⟩) h.lt).trans c1, (hb.cell (p := ⟨g, i * 3 + 2, none⟩) h.lt).trans c2⟩, h.room, h.top, Nat.lt_of_lt_of_le h.lt hb.size⟩

set_option maxRecDepth 20000 in
set_option maxHeartbeats 2000000 in
theorem All_row (ts : List Tok) (n g cap : Nat) (w : World) (hn : ts.length = n) (h : TokRow w g cap ts) (hf : ∀ x ∈ ts, TokFit x) (hs : n ≤ 2000000) :
    Calls Tryz.prog 51 #[.slice (some ⟨g, 0, none⟩) n cap] w (Ans (.bool (ts.all tokOk)) w) := by
  have HF := Lib.hid hf
  have HN := Lib.hid hn
  have HR := Lib.hid h
  have hnc : (n : Int) ≤ (cap : Int) := by have := h.room; omega
  have hs' : (n : Int) ≤ 2000000 := by omega
  clear hf hn h
  go_enter Tryz.func51, Tryz.ntmps51
  go_wp2
  go_loopg [3] n (fun kx s3 wr => ∃ i : Nat, s3 = .int .i64 (i : Int) ∧ kx + i = n ∧ Hid (∀ j x, j < i → ts[j]? = some x → tokOk x = true) ∧ Below w.heap.size w wr)
  case atStart => exact ⟨0, rfl, by omega, Lib.hid fun j x hj => absurd hj (Nat.not_lt_zero _), Below.refl _ _⟩
  case round =>
    obtain ⟨i, rfl, hk, I, hB⟩ := hrel
    by_cases hlt : i < n
    · have hlt' : (i : Int) < (n : Int) := by omega
      have i0' : (0 : Int) ≤ (i : Int) := by omega
      obtain ⟨x, hx⟩ : ∃ x, ts[i]? = some x := ⟨_, List.getElem?_eq_getElem (by rw [HN.out]; exact hlt)⟩
      obtain ⟨f0, f1, f2⟩ := HF.out x (List.mem_of_getElem? hx)
      obtain ⟨c0, c1, c2⟩ := (HR.out.on hB).cells i x hx
      have HT := Lib.hid (fun w' => TokenOk_spec x w' f0 f1 f2)
      have HX := Lib.hid hx
      unfold tokV at HT
      cases hok : tokOk x
      · have HA := Lib.hid (show ts.all tokOk = false by
          rw [Bool.eq_false_iff]
          intro ha
          have := List.all_eq_true.1 ha x (List.mem_of_getElem? HX.out)
          rw [hok] at this; cases this)
        rw [hok] at HT
        clear hx
        go_wp2_with (go_at_call 99; refine (HT.out _).mono ?_; rintro e w2 ⟨rfl, g2⟩)
        go_ret
        exact ⟨by rw [HA.out]; rfl, hB.trans (g2.mono hB.size)⟩
      · have HI := Lib.hid (show ∀ j y, j < i + 1 → ts[j]? = some y → tokOk y = true from fun j y hj hy => by
          rcases Nat.lt_or_eq_of_le (Nat.le_of_lt_succ hj) with h | h
          · exact I.out j y h hy
          · rw [h, HX.out] at hy; cases hy; exact hok)
        rw [hok] at HT
        clear hx
        go_wp2_with (go_at_call 99; refine (HT.out _).mono ?_; rintro e w2 ⟨rfl, g2⟩)
        go_roundg (n - (i + 1))
        case measure => omega
        case rel => exact ⟨i + 1, by go_num, by omega, HI, hB.trans (g2.mono hB.size)⟩
    · have hlt' : ¬ (i : Int) < (n : Int) := by omega
      have HA := Lib.hid (show ts.all tokOk = true by
        rw [List.all_eq_true]
        intro x hx
        obtain ⟨j, hj, e⟩ := List.getElem_of_mem hx
        exact I.out j x (by rw [HN.out] at hj; omega) (by rw [List.getElem?_eq_getElem hj, e]))
      go_wp2
      go_ret
      exact ⟨by rw [HA.out]; rfl, hB⟩

theorem All_nil (w : World) : Calls Tryz.prog 51 #[.slice none 0 0] w (Ans (.bool true) w) := by
  go_enter Tryz.func51, Tryz.ntmps51
  go_wp2
  go_loop [3] (fun s3 => s3 = .int .i64 0) (fun _ => 0)
  case atStart => rfl
  case round =>
    obtain rfl := hrel
    go_wp2
    go_ret
    exact ⟨rfl, Below.refl _ _⟩

/-- What TextOf answers. -/
def textOf (ts : List Tok) : List UInt8 := if ts.all tokOk = true then texts ts else []

theorem texts_take {ts : List Tok} {i : Nat} {x : Tok} (h : ts[i]? = some x) : texts (ts.take (i + 1)) = texts (ts.take i) ++ tokText x := by
  rw [List.take_add_one, h, texts_app]
  simp [texts]

theorem texts_le (ts : List Tok) (i : Nat) : (texts (ts.take i)).length ≤ (texts ts).length := by
  have : texts ts = texts (ts.take i) ++ texts (ts.drop i) := by rw [← texts_app, List.take_append_drop]
  rw [this, List.length_append]; omega

end Go.Proofs.YtliihnkonakacaaGreatDoor.B5

namespace Go.Proofs.YtliihnkonakacaaGreatDoor.B5
open Go.Proofs.YtliihnkonakacaaGreatDoor.P1 Go.Proofs.YtliihnkonakacaaGreatDoor.B1 Go.Proofs.YtliihnkonakacaaGreatDoor.B2 Go.Proofs.YtliihnkonakacaaGreatDoor.T1 Go.Proofs.YtliihnkonakacaaGreatDoor.BT Go.Proofs.YtliihnkonakacaaGreatDoor.P5 Go.Proofs.YtliihnkonakacaaGreatDoor.D1
open Go.ChangeShapes Go.WideShapes Go.ChangeAt Go.RowKit
set_option linter.unusedVariables false

/-- Would a space be left out behind these? -/
def lastSp (done : List Tok) : Bool := match done.getLast? with
  | none => true
  | some x => isSp x

theorem lastSp_more (done : List Tok) (x : Tok) : lastSp (done ++ [x]) = isSp x := by simp [lastSp]

theorem sq_skip {ts done : List Tok} {i : Nat} {x : Tok} (hx : ts[i]? = some x) (hs : isSp x = true) (hd : lastSp done = true) (I : sqF true ts = done ++ sqF (lastSp done) (ts.drop i)) : sqF true ts = done ++ sqF (lastSp done) (ts.drop (i + 1)) := by
  obtain ⟨h, e⟩ := List.getElem?_eq_some_iff.1 hx
  rw [I, List.drop_eq_getElem_cons h, e, hd, sqF, if_pos hs, if_pos rfl]

theorem sq_take {ts done : List Tok} {i : Nat} {x : Tok} (hx : ts[i]? = some x) (hs : isSp x = false ∨ lastSp done = false) (I : sqF true ts = done ++ sqF (lastSp done) (ts.drop i)) : sqF true ts = (done ++ [x]) ++ sqF (lastSp (done ++ [x])) (ts.drop (i + 1)) := by
  obtain ⟨h, e⟩ := List.getElem?_eq_some_iff.1 hx
  rw [I, List.drop_eq_getElem_cons h, e, lastSp_more, List.append_assoc, sqF]
  cases hsx : isSp x
  · rw [if_neg (by decide)]; rfl
  · rcases hs with hs | hs
    · rw [hsx] at hs; cases hs
    · rw [if_pos rfl, hs, if_neg (by decide)]; rfl

theorem sqF_len : ∀ (f : Bool) (ts : List Tok), (sqF f ts).length ≤ ts.length
  | _, [] => Nat.le_refl _
  | f, x :: r => by
    rw [sqF]
    split
    · split
      · have := sqF_len true r; simp; omega
      · have := sqF_len true r; simp; omega
    · have := sqF_len false r; simp; omega

theorem last_cell {ts : List Tok} {q : Nat} {x : Tok} (h : ts.length = q + 1) (hx : ts.getLast? = some x) : ts[q]? = some x := by
  rw [List.getLast?_eq_getElem?, h] at hx
  simpa using hx

/-- A slice of tokens of the call's own, opened. -/
theorem Toks.row {w : World} {v : Value} {B : Nat} {ts : List Tok} (h : Toks w v B ts) : (v = .slice none 0 0 ∧ ts = []) ∨ ∃ g cap, v = .slice (some ⟨g, 0, none⟩) ts.length cap ∧ B ≤ g ∧ TokRow w g cap ts := by
  have h' := h
  unfold Toks at h'
  rcases h'.2 with ⟨hv, hn⟩ | ⟨g, cap, cur, rfl, hb, hg, hnc, hm, _⟩
  · exact Or.inl ⟨hv, List.length_eq_zero_iff.1 hn⟩
  · refine Or.inr ⟨g, cap, rfl, hb, ⟨fun i x hx => ?_, hnc, by unfold maxLen at hm; omega, (Array.getElem?_eq_some_iff.1 hg).1⟩⟩
    have hi := (List.getElem?_eq_some_iff.1 hx).1
    obtain ⟨e0, e1, e2⟩ := toksC_at hx
    exact ⟨by rw [World.ownsRow.cellAt h' _ (by omega)]; exact e0, by rw [World.ownsRow.cellAt h' _ (by omega)]; exact e1, by rw [World.ownsRow.cellAt h' _ (by omega)]; exact e2⟩

theorem toksC_drop (ts : List Tok) : (toksC ts).take (ts.dropLast.length * 3) = toksC ts.dropLast := by
  rcases List.eq_nil_or_concat ts with rfl | ⟨r, x, rfl⟩
  · rfl
  · rw [List.concat_eq_append, List.dropLast_concat, toksC_more, ← toksC_len, List.take_left]

/-- Its last one left off. -/
theorem Toks.cut {w : World} {B g cap : Nat} {ts : List Tok} {q : Nat} (h : Toks w (.slice (some ⟨g, 0, none⟩) ts.length cap) B ts) (hq : ts.dropLast.length = q) : Toks w (.slice (some ⟨g, 0, none⟩) q cap) B ts.dropLast := by
  unfold Toks at h ⊢
  subst hq
  rcases h.2 with ⟨hv, _⟩ | ⟨g', cap', cur, hv, hb, hg, hnc, hm, hc, ht⟩
  · cases hv
  · simp only [Value.slice.injEq, Option.some.injEq, Addr.mk.injEq, and_true, true_and] at hv
    obtain ⟨rfl, rfl⟩ := hv
    have hle : ts.dropLast.length ≤ ts.length := by simp
    refine ⟨toksC_len _, Or.inr ⟨g, cap, cur, rfl, hb, hg, Nat.le_trans hle hnc, hm, hc, ?_⟩⟩
    rw [← toksC_drop, ← ht, List.take_take, Nat.min_eq_left (Nat.mul_le_mul_right 3 hle)]

/-- What l5Squeeze answers. -/
def Squeezes (ts : List Tok) (w : World) (e : Ending) (w' : World) : Prop := ∃ v, e = .returned v ∧ Toks w' v w.heap.size ts ∧ Below w.heap.size w w'

theorem trim_space {ts : List Tok} {x : Tok} (h : ts.getLast? = some x) (hs : isSp x = true) : trimEnd ts = ts.dropLast := by unfold trimEnd; rw [h]; exact if_pos hs
theorem trim_else {ts : List Tok} {x : Tok} (h : ts.getLast? = some x) (hs : isSp x = false) : trimEnd ts = ts := by unfold trimEnd; rw [h]; exact if_neg (by simp [hs])

theorem ownD {w : World} {v : Value} {B D : Nat} {ts : List Tok} (h : Toks w v B ts) (hd : ts.length = D) : w.ownsRow B 73 3 v D (toksC ts) := by
  unfold Toks at h
  rw [hd] at h
  exact h

set_option maxRecDepth 20000 in
set_option maxHeartbeats 4000000 in
theorem Squeeze_row (ts : List Tok) (n g cap : Nat) (w : World) (hn : ts.length = n) (h : TokRow w g cap ts) (hs : n ≤ 2000000) :
    Calls Tryz.prog 100 #[.slice (some ⟨g, 0, none⟩) n cap] w (Squeezes (squeeze ts) w) := by
  obtain ⟨i0, hi, hz0, hz1, hz2⟩ := info_parts infoTok
  have HN := Lib.hid hn
  have HR := Lib.hid h
  have hnc : (n : Int) ≤ (cap : Int) := by have := h.room; omega
  have hs' : (n : Int) ≤ 2000000 := by omega
  clear hn h
  go_enter Tryz.func100, Tryz.ntmps100
  go_wp2
  go_loopg [3, 4] n (fun kx s3 s4 wr => ∃ (i : Nat) (done : List Tok), s4 = .int .i64 (i : Int) ∧ kx + i = n ∧ Toks wr s3 w.heap.size done ∧ Hid (sqF true ts = done ++ sqF (lastSp done) (ts.drop i)) ∧ Below w.heap.size w wr)
  case atStart => exact ⟨0, [], rfl, by omega, World.ownsRow_lit w #[] 0 (Nat.le_refl _) (by decide) rfl, Lib.hid rfl, (Below.refl _ _).alloc (Nat.le_refl _) _⟩
  case round =>
    obtain ⟨i, done, rfl, hk, hown, I, hB⟩ := hrel
    have hfew : done.length ≤ n := by
      have h1 := sqF_len true ts
      rw [I.out, List.length_append, HN.out] at h1
      omega
    by_cases hlt : i < n
    · have hlt' : (i : Int) < (n : Int) := by omega
      have i0' : (0 : Int) ≤ (i : Int) := by omega
      obtain ⟨x, hx⟩ : ∃ x, ts[i]? = some x := ⟨_, List.getElem?_eq_getElem (by rw [HN.out]; exact hlt)⟩
      obtain ⟨c0, c1, c2⟩ := (HR.out.on hB).cells i x hx
      have HX := Lib.hid hx
      clear hx
      cases hsp : isSp x
      · have HI := Lib.hid (sq_take HX.out (Or.inl hsp) I.out)
        have h5 : (x.k == 5) = false := hsp
        obtain ⟨k, t, n'⟩ := x
        dsimp only at c0 c1 c2 h5
        clear hsp
        go_wp2_with (at_builtin; refine wpList_append_own _ rfl _ _ 27 rfl w.heap.size 73 i0 _ 3 32 Tryz.underlying27 hi hz0 hz1 hz2 rfl (by decide) _ done.length (toksC done) rfl (World.ownsRow.alloc hown _) ⟨wr.heap.size, 0, none⟩ 1 1 [.int .i64 k, .string ⟨t.toArray⟩, .int .i64 n'] rfl rfl (cell_three_new _ _ _ _ _) (by simp [Value.oneCell']) (by simp [maxLen]; omega) (by omega) (by have := hB.size; simp; omega) ?_; intro v4 w4 hown4 hgrow4 _)
        go_roundg (n - (i + 1))
        case measure => omega
        case rel => exact ⟨i + 1, done ++ [⟨k, t, n'⟩], by go_num, by omega, toks_more hown4, HI, (hB.alloc hB.size _).grown hgrow4 (by have := hB.size; simp; omega) (fun k hk => (World.ownsRow.lt hown k hk).1)⟩
      · have h5 : (x.k == 5) = true := hsp
        have hown' := hown
        rcases Toks.row hown' with ⟨rfl, rfl⟩ | ⟨go, co, rfl, hgo, hrow⟩
        · have HI := Lib.hid (sq_skip HX.out hsp rfl I.out)
          clear hsp
          go_wp2
          go_roundg (n - (i + 1))
          case measure => omega
          case rel => exact ⟨i + 1, [], by go_num, by omega, hown, HI, hB⟩
        · obtain ⟨d, hd⟩ : ∃ d, done.length = d := ⟨_, rfl⟩
          rw [hd]
          by_cases hd0 : d = 0
          · subst hd0
            obtain rfl : done = [] := List.length_eq_zero_iff.1 hd
            have HI := Lib.hid (sq_skip HX.out hsp rfl I.out)
            clear hsp
            go_wp2
            go_roundg (n - (i + 1))
            case measure => omega
            case rel => exact ⟨i + 1, [], by go_num, by omega, hown, HI, hB⟩
          · obtain ⟨q, rfl⟩ : ∃ q, d = q + 1 := ⟨d - 1, by omega⟩
            obtain ⟨y, hy⟩ : ∃ y, done.getLast? = some y := ⟨_, List.getLast?_eq_some_getLast (by intro e; rw [e] at hd; simp at hd)⟩
            obtain ⟨b0, _, _⟩ := hrow.cells q y (last_cell hd hy)
            have hdne : (((q + 1 : Nat) : Int) == 0) = false := by rw [beq_eq_false_iff_ne]; omega
            have hqw : IntKind.i64.wrap (((q + 1 : Nat) : Int) - 1) = (q : Int) := by rw [IntKind.wrap_i64]; omega
            have q0 : (0 : Int) ≤ (q : Int) := by omega
            have q1 : (q : Int) < ((q + 1 : Nat) : Int) := by omega
            have hco : ((q + 1 : Nat) : Int) ≤ (co : Int) := by have := hrow.room; omega
            have hls : lastSp done = isSp y := by unfold lastSp; rw [hy]
            obtain ⟨D, hD⟩ : ∃ D : Nat, q + 1 = D := ⟨_, rfl⟩
            rw [hD] at hdne hqw q1 hco hd ⊢
            cases hyp : isSp y
            · have HI := Lib.hid (sq_take HX.out (Or.inr (hls.trans hyp)) I.out)
              have h5y : (y.k == 5) = false := hyp
              rw [hd] at hown
              obtain ⟨k, t, n'⟩ := x
              dsimp only at c0 c1 c2 h5
              clear hsp hyp hls hy hD
              go_wp2_with (at_builtin; refine wpList_append_own _ rfl _ _ 27 rfl w.heap.size 73 i0 _ 3 32 Tryz.underlying27 hi hz0 hz1 hz2 rfl (by decide) _ D (toksC done) rfl (World.ownsRow.alloc (ownD hown hd) _) ⟨wr.heap.size, 0, none⟩ 1 1 [.int .i64 k, .string ⟨t.toArray⟩, .int .i64 n'] rfl rfl (cell_three_new _ _ _ _ _) (by simp [Value.oneCell']) (by simp [maxLen]; omega) (by omega) (by have := hB.size; simp; omega) ?_; intro v4 w4 hown4 hgrow4 _)
              go_roundg (n - (i + 1))
              case measure => omega
              case rel => exact ⟨i + 1, done ++ [⟨k, t, n'⟩], by go_num, by omega, toks_more (by rw [hd]; exact hown4), HI, (hB.alloc hB.size _).grown hgrow4 (by have := hB.size; simp; omega) (fun k hk => (World.ownsRow.lt (ownD hown hd) k hk).1)⟩
            · have HI := Lib.hid (sq_skip HX.out hsp (hls.trans hyp) I.out)
              have h5y : (y.k == 5) = true := hyp
              clear hsp hyp hls hy hD
              go_wp2
              go_roundg (n - (i + 1))
              case measure => omega
              case rel => exact ⟨i + 1, done, by go_num, by omega, by rw [hd] at hown; exact hown, HI, hB⟩
    · have hlt' : ¬ (i : Int) < (n : Int) := by omega
      have HD := Lib.hid (show sqF true ts = done by rw [I.out, List.drop_of_length_le (by rw [HN.out]; omega)]; simp [sqF])
      have hown' := hown
      rcases Toks.row hown' with ⟨rfl, rfl⟩ | ⟨go, co, rfl, hgo, hrow⟩
      · have Hx := Lib.hid (show squeeze ts = [] by unfold squeeze; rw [HD.out]; rfl)
        go_wp2
        go_ret
        exact ⟨_, rfl, by rw [Hx.out]; exact hown, hB⟩
      · obtain ⟨d, hd⟩ : ∃ d, done.length = d := ⟨_, rfl⟩
        rw [hd]
        by_cases hd0 : d = 0
        · subst hd0
          obtain rfl : done = [] := List.length_eq_zero_iff.1 hd
          have Hx := Lib.hid (show squeeze ts = [] by unfold squeeze; rw [HD.out]; rfl)
          go_wp2
          go_ret
          exact ⟨_, rfl, by rw [Hx.out]; exact hown, hB⟩
        · obtain ⟨q, rfl⟩ : ∃ q, d = q + 1 := ⟨d - 1, by omega⟩
          obtain ⟨y, hy⟩ : ∃ y, done.getLast? = some y := ⟨_, List.getLast?_eq_some_getLast (by intro e; rw [e] at hd; simp at hd)⟩
          obtain ⟨b0, _, _⟩ := hrow.cells q y (last_cell hd hy)
          have hqw : IntKind.i64.wrap (((q + 1 : Nat) : Int) - 1) = (q : Int) := by rw [IntKind.wrap_i64]; omega
          have q0 : (0 : Int) ≤ (q : Int) := by omega
          have q1 : (q : Int) < ((q + 1 : Nat) : Int) := by omega
          have qp : (0 : Int) < ((q + 1 : Nat) : Int) := by omega
          have hco : ((q + 1 : Nat) : Int) ≤ (co : Int) := by have := hrow.room; omega
          have hqc : (q : Int) ≤ (co : Int) := by omega
          have hdl : done.dropLast.length = q := by rw [List.length_dropLast, hd]; rfl
          obtain ⟨D, hD⟩ : ∃ D : Nat, q + 1 = D := ⟨_, rfl⟩
          rw [hD] at hqw q1 qp hco hd ⊢
          rw [hd] at hown
          cases hyp : isSp y
          · have Hx := Lib.hid (show squeeze ts = done by unfold squeeze; rw [HD.out]; exact trim_else hy hyp)
            have h5y : (y.k == 5) = false := hyp
            clear hyp hy hD
            go_wp2
            go_ret
            exact ⟨_, rfl, by rw [Hx.out]; exact hown, hB⟩
          · have Hx := Lib.hid (show squeeze ts = done.dropLast by unfold squeeze; rw [HD.out]; exact trim_space hy hyp)
            have h5y : (y.k == 5) = true := hyp
            clear hyp hy hD
            go_wp2
            go_ret
            exact ⟨_, rfl, by rw [Hx.out]; exact Toks.cut (by rw [hd]; exact hown) hdl, hB⟩

end Go.Proofs.YtliihnkonakacaaGreatDoor.B5

namespace Go.Proofs.YtliihnkonakacaaGreatDoor.B5
open Go.Proofs.YtliihnkonakacaaGreatDoor.P1 Go.Proofs.YtliihnkonakacaaGreatDoor.B1 Go.Proofs.YtliihnkonakacaaGreatDoor.B2 Go.Proofs.YtliihnkonakacaaGreatDoor.T1 Go.Proofs.YtliihnkonakacaaGreatDoor.BT Go.Proofs.YtliihnkonakacaaGreatDoor.P5 Go.Proofs.YtliihnkonakacaaGreatDoor.D1
open Go.ChangeShapes Go.WideShapes Go.ChangeAt Go.RowKit
set_option linter.unusedVariables false

theorem Squeezes.from {ts : List Tok} {w w1 : World} {e : Ending} {w' : World} (hb : Below w.heap.size w w1) (h : Squeezes ts w1 e w') : Squeezes ts w e w' := by
  obtain ⟨v, he, ho, hB⟩ := h
  refine ⟨v, he, ?_, hb.trans (hB.mono hb.size)⟩
  unfold Toks at ho ⊢
  refine ⟨ho.1, ?_⟩
  rcases ho.2 with h0 | ⟨g, cap, cur, h1, h2, h3⟩
  · exact Or.inl h0
  · exact Or.inr ⟨g, cap, cur, h1, Nat.le_trans hb.size h2, h3⟩

set_option maxHeartbeats 1000000 in
theorem Squeeze_nil (w : World) : Calls Tryz.prog 100 #[.slice none 0 0] w (Squeezes [] w) := by
  go_enter Tryz.func100, Tryz.ntmps100
  go_wp2
  go_loop [3, 4] (fun s3 s4 => s3 = .slice (some ⟨w.heap.size, 0, none⟩) 0 0 ∧ s4 = .int .i64 0) (fun _ _ => 0)
  case atStart => exact ⟨rfl, rfl⟩
  case round =>
    obtain ⟨rfl, rfl⟩ := hrel
    go_wp2
    go_ret
    exact ⟨_, rfl, World.ownsRow_lit w #[] 0 (Nat.le_refl _) (by decide) rfl, (Below.refl _ _).alloc (Nat.le_refl _) _⟩

end Go.Proofs.YtliihnkonakacaaGreatDoor.B5
