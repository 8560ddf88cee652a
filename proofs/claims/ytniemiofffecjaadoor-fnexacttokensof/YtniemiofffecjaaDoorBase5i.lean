/- Contracts of chapter 5's functions (tokens): the reference's TokenOk. -/
import Derived.Test.YtniemiofffecjaaDoorBase5h
namespace Go.Proofs.YtniemiofffecjaaDoor.B5
open Go.Proofs.YtniemiofffecjaaDoor.P1 Go.Proofs.YtniemiofffecjaaDoor.B1 Go.Proofs.YtniemiofffecjaaDoor.B2 Go.Proofs.YtniemiofffecjaaDoor.T1 Go.Proofs.YtniemiofffecjaaDoor.BT Go.Proofs.YtniemiofffecjaaDoor.P5 Go.Proofs.YtniemiofffecjaaDoor.D1
open Go.ChangeShapes Go.WideShapes Go.ChangeAt Go.RowKit
set_option linter.unusedVariables false

theorem tokOk_out {x : Tok} (h : within x.n (-999999999) 999999999 = false) : tokOk x = false := by
  unfold tokOk
  unfold within at h
  rw [h]; rfl

theorem tokOk_long {x : Tok} (h : 4000 < x.t.length) : tokOk x = false := by
  unfold tokOk
  rw [show decide (x.t.length ≤ 4000) = false by simp; omega]
  simp

theorem tokOk_empty {x : Tok} (h : tokText x = []) : tokOk x = false := by
  unfold tokOk
  rw [h]
  simp

theorem tokOk_in {x : Tok} {s : List UInt8} (h : within x.n (-999999999) 999999999 = true) (hl : x.t.length ≤ 4000) (hs : tokText x = s) (hne : s ≠ []) : tokOk x = ((nextTok s).1.same x && ((((nextTok s).2 : Nat) : Int) == (s.length : Int))) := by
  unfold tokOk
  unfold within at h
  rw [h, show decide (x.t.length ≤ 4000) = true by simpa using hl, hs]
  cases s with
  | nil => exact absurd rfl hne
  | cons b t =>
    have : ((((nextTok (b :: t)).2 : Nat) : Int) == ((b :: t).length : Int)) = decide ((nextTok (b :: t)).2 = (b :: t).length) := by
      rw [Bool.eq_iff_iff]
      simp only [beq_iff_eq, decide_eq_true_eq]
      omega
    rw [this]
    simp

theorem text_len {x : Tok} (h0 : -9223372036854775808 ≤ x.n) (h1 : x.n ≤ 9223372036854775807) : (tokText x).length ≤ x.t.length + 22 := by
  have := itoa_short h0 h1
  unfold tokText
  split
  · rw [List.length_append]; omega
  · split
    · simp
    · split
      · simp
      · omega

theorem three_call {w w2 : World} {h : Nat} {v0 v1 v2 : Value} (g : Below w.heap.size w w2) (hl : h < w.heap.size) (c0 : w.cell? ⟨h, 0, none⟩ = some v0) (c1 : w.cell? ⟨h, 1, none⟩ = some v1) (c2 : w.cell? ⟨h, 2, none⟩ = some v2) :
    w2.cell? ⟨h, 0, none⟩ = some v0 ∧ w2.cell? ⟨h, 1, none⟩ = some v1 ∧ w2.cell? ⟨h, 2, none⟩ = some v2 ∧ h < w2.heap.size :=
  ⟨(g.cell (p := ⟨h, 0, none⟩) hl).trans c0, (g.cell (p := ⟨h, 1, none⟩) hl).trans c1, (g.cell (p := ⟨h, 2, none⟩) hl).trans c2, Nat.lt_of_lt_of_le hl g.size⟩

set_option maxHeartbeats 2000000 in
theorem TokenOk_spec (x : Tok) (w : World) (h0 : -9223372036854775808 ≤ x.n) (h1 : x.n ≤ 9223372036854775807) (hl : x.t.length ≤ 1048576) :
    Calls Tryd.prog 19 #[tokV x] w (Ans (.bool (tokOk x)) w) := by
  have HT := Lib.hid (fun w' => Text_spec x w' h0 h1 hl)
  have htl := text_len h0 h1
  obtain ⟨L, eL⟩ : ∃ L, x.t.length = L := ⟨_, rfl⟩
  have hlen := fun (w' : World) (t : TypeId) => str_lenN x.t L eL w' t
  have hL1 : (L : Int) ≤ 1048576 := by omega
  cases hw : within x.n (-999999999) 999999999
  · have Hx := Lib.hid (tokOk_out hw)
    obtain ⟨k, t, n⟩ := x
    unfold tokV at HT ⊢
    dsimp only at HT hw hlen ⊢
    go_enter Tryd.func19, Tryd.ntmps19
    go_wp2_with (go_at_call 43; refine (in_spec _ _ _ _).mono ?_; rintro e w' ⟨rfl, rfl⟩)
    go_ret
    exact ⟨by rw [Hx.out]; rfl, (Below.refl _ _).alloc (Nat.le_refl _) _⟩
  · by_cases hlong : 4000 < L
    · have Hx := Lib.hid (tokOk_long (x := x) (by omega))
      have hlong' : (4000 : Int) < (L : Int) := by omega
      obtain ⟨k, t, n⟩ := x
      unfold tokV at HT ⊢
      dsimp only at HT hw hlen ⊢
      go_enter Tryd.func19, Tryd.ntmps19
      go_wp2_with (go_at_call 43; refine (in_spec _ _ _ _).mono ?_; rintro e w' ⟨rfl, rfl⟩)
      go_ret
      exact ⟨by rw [Hx.out]; rfl, (Below.refl _ _).alloc (Nat.le_refl _) _⟩
    · have hlong' : ¬ (4000 : Int) < (L : Int) := by omega
      obtain ⟨s, es⟩ : ∃ s, tokText x = s := ⟨_, rfl⟩
      rw [es] at HT htl
      by_cases hs : s = []
      · have Hx := Lib.hid (tokOk_empty (x := x) (es.trans hs))
        have hse : (s == []) = true := by rw [hs]; rfl
        obtain ⟨k, t, n⟩ := x
        unfold tokV at HT ⊢
        dsimp only at HT hw hlen ⊢
        clear es hs htl
        go_enter Tryd.func19, Tryd.ntmps19
        go_wp2_with (first | (go_at_call 43; refine (in_spec _ _ _ _).mono ?_; rintro e w' ⟨rfl, rfl⟩) | (go_at_call 42; refine (HT.out _).mono ?_; rintro e w1 ⟨rfl, g1⟩))
        go_ret
        exact ⟨by rw [Hx.out]; rfl, Below.box g1⟩
      · have Hx := Lib.hid (tokOk_in (x := x) hw (by omega) es hs)
        have hse : (s == []) = false := by simpa using hs
        have hpos : 0 < s.length := by cases s with | nil => exact absurd rfl hs | cons b r => simp
        have HN := Lib.hid (fun w' => Next_spec s 0 w' hpos (by omega))
        rw [show s.drop 0 = s from rfl] at HN
        obtain ⟨S, eS⟩ : ∃ S, s.length = S := ⟨_, rfl⟩
        have hlenS := fun (w' : World) (t : TypeId) => str_lenN s S eS w' t
        rw [eS] at Hx
        obtain ⟨y, ey⟩ : ∃ y, (nextTok s).1 = y := ⟨_, rfl⟩
        obtain ⟨m, em⟩ : ∃ m, (nextTok s).2 = m := ⟨_, rfl⟩
        rw [ey, em] at Hx HN
        have heq := fun w' => eq_token y.k y.n x.k x.n y.t x.t w'
        obtain ⟨k, t, n⟩ := x
        obtain ⟨k', t', n'⟩ := y
        unfold tokV at HT ⊢
        unfold Nexts tokV at HN
        dsimp only at HT HN hw hlen heq ⊢
        rw [Nat.zero_add] at HN
        clear es hs htl eS ey em eL
        cases hsame : Tok.same ⟨k', t', n'⟩ ⟨k, t, n⟩
        · rw [hsame] at heq Hx
          go_enter Tryd.func19, Tryd.ntmps19
          have hn := three_new (.int .i64 k) (.string ⟨t.toArray⟩) (.int .i64 n) 29 (Below.refl w.heap.size w)
          obtain ⟨c0, c1, c2, hlt, hB⟩ := hn
          go_wp2_with (first | (go_at_call 43; refine (in_spec _ _ _ _).mono ?_; rintro e w' ⟨rfl, rfl⟩) | (go_at_call 42; refine (HT.out _).mono ?_; rintro e w1 ⟨rfl, g1⟩; obtain ⟨c0', c1', c2', hlt'⟩ := three_call g1 hlt c0 c1 c2) | (go_at_call 36; refine (HN.out _).mono ?_; rintro e w2 ⟨rfl, g2⟩; obtain ⟨c0'', c1'', c2'', hlt''⟩ := three_call g2 hlt' c0' c1' c2'))
          go_ret
          have hB2 := hB.trans (g1.mono hB.size)
          have hB3 := hB2.trans (g2.mono hB2.size)
          exact ⟨by rw [Hx.out]; rfl, hB3.alloc hB3.size _⟩
        · rw [hsame] at heq Hx
          go_enter Tryd.func19, Tryd.ntmps19
          have hn := three_new (.int .i64 k) (.string ⟨t.toArray⟩) (.int .i64 n) 29 (Below.refl w.heap.size w)
          obtain ⟨c0, c1, c2, hlt, hB⟩ := hn
          go_wp2_with (first | (go_at_call 43; refine (in_spec _ _ _ _).mono ?_; rintro e w' ⟨rfl, rfl⟩) | (go_at_call 42; refine (HT.out _).mono ?_; rintro e w1 ⟨rfl, g1⟩; obtain ⟨c0', c1', c2', hlt'⟩ := three_call g1 hlt c0 c1 c2) | (go_at_call 36; refine (HN.out _).mono ?_; rintro e w2 ⟨rfl, g2⟩; obtain ⟨c0'', c1'', c2'', hlt''⟩ := three_call g2 hlt' c0' c1' c2'))
          go_ret
          have hB2 := hB.trans (g1.mono hB.size)
          have hB3 := hB2.trans (g2.mono hB2.size)
          exact ⟨by rw [Hx.out]; rfl, hB3.alloc hB3.size _⟩

end Go.Proofs.YtniemiofffecjaaDoor.B5
