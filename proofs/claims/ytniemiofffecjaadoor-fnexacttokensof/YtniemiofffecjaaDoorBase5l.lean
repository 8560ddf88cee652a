/- Contracts of chapter 5's functions (tokens): the reference's l5Squeeze, Squeezed. -/
import Derived.Test.YtniemiofffecjaaDoorBase5k
namespace Go.Proofs.YtniemiofffecjaaDoor.B5
open Go.Proofs.YtniemiofffecjaaDoor.P1 Go.Proofs.YtniemiofffecjaaDoor.B1 Go.Proofs.YtniemiofffecjaaDoor.B2 Go.Proofs.YtniemiofffecjaaDoor.T1 Go.Proofs.YtniemiofffecjaaDoor.BT Go.Proofs.YtniemiofffecjaaDoor.P5 Go.Proofs.YtniemiofffecjaaDoor.D1
open Go.ChangeShapes Go.WideShapes Go.ChangeAt Go.RowKit
set_option linter.unusedVariables false

/-- Would a space be left out behind these? -/
def lastSp (done : List Tok) : Bool := match done.getLast? with
  | none => true
  | some x => isSp x

theorem lastSp_more (done : List Tok) (x : Tok) : lastSp (done ++ [x]) = isSp x := by simp [lastSp]

theorem sq_skip {ts done : List Tok} {i : Nat} {x : Tok} (hx : ts[i]? = some x) (hs : isSp x = true) (hd : lastSp done = true) (I : sqF true ts = done ++ sqF (lastSp done) (ts.drop i)) : sqF true ts = done ++ sqF (lastSp done) (ts.drop (i + 1)) := by
  obtain ⟨h, e⟩ := List.getElem?_eq_some_iff.1 hx
  rw [I, List.drop_eq_getElem_cons h, e, hd, sqF, if_pos hs, if_pos rfl]

theorem sq_take {ts done : List Tok} {i : Nat} {x : Tok} (hx : ts[i]? = some x) (hs : isSp x = false ∨ lastSp done = false) (I : sqF true ts = done ++ sqF (lastSp done) (ts.drop i)) : sqF true ts = (done ++ [x]) ++ sqF (lastSp (done ++ [x])) (ts.drop (i + 1)) := by
  obtain ⟨h, e⟩ := List.getElem?_eq_some_iff.1 hx
  rw [I, List.drop_eq_getElem_cons h, e, lastSp_more, List.append_assoc, sqF]
  cases hsx : isSp x
  · rw [if_neg (by decide)]; rfl
  · rcases hs with hs | hs
    · rw [hsx] at hs; cases hs
    · rw [if_pos rfl, hs, if_neg (by decide)]; rfl

theorem sqF_len : ∀ (f : Bool) (ts : List Tok), (sqF f ts).length ≤ ts.length
  | _, [] => Nat.le_refl _
  | f, x :: r => by
    rw [sqF]
    split
    · split
      · have := sqF_len true r; simp; omega
      · have := sqF_len true r; simp; omega
    · have := sqF_len false r; simp; omega

theorem last_cell {ts : List Tok} {q : Nat} {x : Tok} (h : ts.length = q + 1) (hx : ts.getLast? = some x) : ts[q]? = some x := by
  rw [List.getLast?_eq_getElem?, h] at hx
  simpa using hx

/-- A slice of tokens of the call's own, opened. -/
theorem Toks.row {w : World} {v : Value} {B : Nat} {ts : List Tok} (h : Toks w v B ts) : (v = .slice none 0 0 ∧ ts = []) ∨ ∃ g cap, v = .slice (some ⟨g, 0, none⟩) ts.length cap ∧ B ≤ g ∧ TokRow w g cap ts := by
  have h' := h
  unfold Toks at h'
  rcases h'.2 with ⟨hv, hn⟩ | ⟨g, cap, cur, rfl, hb, hg, hnc, hm, _⟩
  · exact Or.inl ⟨hv, List.length_eq_zero_iff.1 hn⟩
  · refine Or.inr ⟨g, cap, rfl, hb, ⟨fun i x hx => ?_, hnc, by unfold maxLen at hm; omega, (Array.getElem?_eq_some_iff.1 hg).1⟩⟩
    have hi := (List.getElem?_eq_some_iff.1 hx).1
    obtain ⟨e0, e1, e2⟩ := toksC_at hx
    exact ⟨by rw [World.ownsRow.cellAt h' _ (by omega)]; exact e0, by rw [World.ownsRow.cellAt h' _ (by omega)]; exact e1, by rw [World.ownsRow.cellAt h' _ (by omega)]; exact e2⟩

theorem toksC_drop (ts : List Tok) : (toksC ts).take (ts.dropLast.length * 3) = toksC ts.dropLast := by
  rcases List.eq_nil_or_concat ts with rfl | ⟨r, x, rfl⟩
  · rfl
  · rw [List.concat_eq_append, List.dropLast_concat, toksC_more, ← toksC_len, List.take_left]

/-- Its last one left off. -/
theorem Toks.cut {w : World} {B g cap : Nat} {ts : List Tok} {q : Nat} (h : Toks w (.slice (some ⟨g, 0, none⟩) ts.length cap) B ts) (hq : ts.dropLast.length = q) : Toks w (.slice (some ⟨g, 0, none⟩) q cap) B ts.dropLast := by
  unfold Toks at h ⊢
  subst hq
  rcases h.2 with ⟨hv, _⟩ | ⟨g', cap', cur, hv, hb, hg, hnc, hm, hc, ht⟩
  · cases hv
  · simp only [Value.slice.injEq, Option.some.injEq, Addr.mk.injEq, and_true, true_and] at hv
    obtain ⟨rfl, rfl⟩ := hv
    have hle : ts.dropLast.length ≤ ts.length := by simp
    refine ⟨toksC_len _, Or.inr ⟨g, cap, cur, rfl, hb, hg, Nat.le_trans hle hnc, hm, hc, ?_⟩⟩
    rw [← toksC_drop, ← ht, List.take_take, Nat.min_eq_left (Nat.mul_le_mul_right 3 hle)]

/-- What l5Squeeze answers. -/
def Squeezes (ts : List Tok) (w : World) (e : Ending) (w' : World) : Prop := ∃ v, e = .returned v ∧ Toks w' v w.heap.size ts ∧ Below w.heap.size w w'

theorem trim_space {ts : List Tok} {x : Tok} (h : ts.getLast? = some x) (hs : isSp x = true) : trimEnd ts = ts.dropLast := by unfold trimEnd; rw [h]; exact if_pos hs
theorem trim_else {ts : List Tok} {x : Tok} (h : ts.getLast? = some x) (hs : isSp x = false) : trimEnd ts = ts := by unfold trimEnd; rw [h]; exact if_neg (by simp [hs])

theorem ownD {w : World} {v : Value} {B D : Nat} {ts : List Tok} (h : Toks w v B ts) (hd : ts.length = D) : w.ownsRow B 29 3 v D (toksC ts) := by
  unfold Toks at h
  rw [hd] at h
  exact h

set_option maxRecDepth 20000 in
set_option maxHeartbeats 4000000 in
theorem Squeeze_row (ts : List Tok) (n g cap : Nat) (w : World) (hn : ts.length = n) (h : TokRow w g cap ts) (hs : n ≤ 2000000) :
    Calls Tryd.prog 45 #[.slice (some ⟨g, 0, none⟩) n cap] w (Squeezes (squeeze ts) w) := by
  obtain ⟨i0, hi, hz0, hz1, hz2⟩ := info_parts infoTok
  have HN := Lib.hid hn
  have HR := Lib.hid h
  have hnc : (n : Int) ≤ (cap : Int) := by have := h.room; omega
  have hs' : (n : Int) ≤ 2000000 := by omega
  clear hn h
  go_enter Tryd.func45, Tryd.ntmps45
  go_wp2
  go_loopg [3, 4] n (fun kx s3 s4 wr => ∃ (i : Nat) (done : List Tok), s4 = .int .i64 (i : Int) ∧ kx + i = n ∧ Toks wr s3 w.heap.size done ∧ Hid (sqF true ts = done ++ sqF (lastSp done) (ts.drop i)) ∧ Below w.heap.size w wr)
  case atStart => exact ⟨0, [], rfl, by omega, World.ownsRow_lit w #[] 0 (Nat.le_refl _) (by decide) rfl, Lib.hid rfl, (Below.refl _ _).alloc (Nat.le_refl _) _⟩
  case round =>
    obtain ⟨i, done, rfl, hk, hown, I, hB⟩ := hrel
    have hfew : done.length ≤ n := by
      have h1 := sqF_len true ts
      rw [I.out, List.length_append, HN.out] at h1
      omega
    by_cases hlt : i < n
    · have hlt' : (i : Int) < (n : Int) := by omega
      have i0' : (0 : Int) ≤ (i : Int) := by omega
      obtain ⟨x, hx⟩ : ∃ x, ts[i]? = some x := ⟨_, List.getElem?_eq_getElem (by rw [HN.out]; exact hlt)⟩
      obtain ⟨c0, c1, c2⟩ := (HR.out.on hB).cells i x hx
      have HX := Lib.hid hx
      clear hx
      cases hsp : isSp x
      · have HI := Lib.hid (sq_take HX.out (Or.inl hsp) I.out)
        have h5 : (x.k == 5) = false := hsp
        obtain ⟨k, t, n'⟩ := x
        dsimp only at c0 c1 c2 h5
        clear hsp
        go_wp2_with (at_builtin; refine wpList_append_own _ rfl _ _ 25 rfl w.heap.size 29 i0 _ 3 32 Tryd.underlying25 hi hz0 hz1 hz2 rfl (by decide) _ done.length (toksC done) rfl (World.ownsRow.alloc hown _) ⟨wr.heap.size, 0, none⟩ 1 1 [.int .i64 k, .string ⟨t.toArray⟩, .int .i64 n'] rfl rfl (cell_three_new _ _ _ _ _) (by simp [Value.oneCell']) (by simp [maxLen]; omega) (by omega) (by have := hB.size; simp; omega) ?_; intro v4 w4 hown4 hgrow4 _)
        go_roundg (n - (i + 1))
        case measure => omega
        case rel => exact ⟨i + 1, done ++ [⟨k, t, n'⟩], by go_num, by omega, toks_more hown4, HI, (hB.alloc hB.size _).grown hgrow4 (by have := hB.size; simp; omega) (fun k hk => (World.ownsRow.lt hown k hk).1)⟩
      · have h5 : (x.k == 5) = true := hsp
        have hown' := hown
        rcases Toks.row hown' with ⟨rfl, rfl⟩ | ⟨go, co, rfl, hgo, hrow⟩
        · have HI := Lib.hid (sq_skip HX.out hsp rfl I.out)
          clear hsp
          go_wp2
          go_roundg (n - (i + 1))
          case measure => omega
          case rel => exact ⟨i + 1, [], by go_num, by omega, hown, HI, hB⟩
        · obtain ⟨d, hd⟩ : ∃ d, done.length = d := ⟨_, rfl⟩
          rw [hd]
          by_cases hd0 : d = 0
          · subst hd0
            obtain rfl : done = [] := List.length_eq_zero_iff.1 hd
            have HI := Lib.hid (sq_skip HX.out hsp rfl I.out)
            clear hsp
            go_wp2
            go_roundg (n - (i + 1))
            case measure => omega
            case rel => exact ⟨i + 1, [], by go_num, by omega, hown, HI, hB⟩
          · obtain ⟨q, rfl⟩ : ∃ q, d = q + 1 := ⟨d - 1, by omega⟩
            obtain ⟨y, hy⟩ : ∃ y, done.getLast? = some y := ⟨_, List.getLast?_eq_some_getLast (by intro e; rw [e] at hd; simp at hd)⟩
            obtain ⟨b0, _, _⟩ := hrow.cells q y (last_cell hd hy)
            have hdne : (((q + 1 : Nat) : Int) == 0) = false := by rw [beq_eq_false_iff_ne]; omega
            have hqw : IntKind.i64.wrap (((q + 1 : Nat) : Int) - 1) = (q : Int) := by rw [IntKind.wrap_i64]; omega
            have q0 : (0 : Int) ≤ (q : Int) := by omega
            have q1 : (q : Int) < ((q + 1 : Nat) : Int) := by omega
            have hco : ((q + 1 : Nat) : Int) ≤ (co : Int) := by have := hrow.room; omega
            have hls : lastSp done = isSp y := by unfold lastSp; rw [hy]
            obtain ⟨D, hD⟩ : ∃ D : Nat, q + 1 = D := ⟨_, rfl⟩
            rw [hD] at hdne hqw q1 hco hd ⊢
            cases hyp : isSp y
            · have HI := Lib.hid (sq_take HX.out (Or.inr (hls.trans hyp)) I.out)
              have h5y : (y.k == 5) = false := hyp
              rw [hd] at hown
              obtain ⟨k, t, n'⟩ := x
              dsimp only at c0 c1 c2 h5
              clear hsp hyp hls hy hD
              go_wp2_with (at_builtin; refine wpList_append_own _ rfl _ _ 25 rfl w.heap.size 29 i0 _ 3 32 Tryd.underlying25 hi hz0 hz1 hz2 rfl (by decide) _ D (toksC done) rfl (World.ownsRow.alloc (ownD hown hd) _) ⟨wr.heap.size, 0, none⟩ 1 1 [.int .i64 k, .string ⟨t.toArray⟩, .int .i64 n'] rfl rfl (cell_three_new _ _ _ _ _) (by simp [Value.oneCell']) (by simp [maxLen]; omega) (by omega) (by have := hB.size; simp; omega) ?_; intro v4 w4 hown4 hgrow4 _)
              go_roundg (n - (i + 1))
              case measure => omega
              case rel => exact ⟨i + 1, done ++ [⟨k, t, n'⟩], by go_num, by omega, toks_more (by rw [hd]; exact hown4), HI, (hB.alloc hB.size _).grown hgrow4 (by have := hB.size; simp; omega) (fun k hk => (World.ownsRow.lt (ownD hown hd) k hk).1)⟩
            · have HI := Lib.hid (sq_skip HX.out hsp (hls.trans hyp) I.out)
              have h5y : (y.k == 5) = true := hyp
              clear hsp hyp hls hy hD
              go_wp2
              go_roundg (n - (i + 1))
              case measure => omega
              case rel => exact ⟨i + 1, done, by go_num, by omega, by rw [hd] at hown; exact hown, HI, hB⟩
    · have hlt' : ¬ (i : Int) < (n : Int) := by omega
      have HD := Lib.hid (show sqF true ts = done by rw [I.out, List.drop_of_length_le (by rw [HN.out]; omega)]; simp [sqF])
      have hown' := hown
      rcases Toks.row hown' with ⟨rfl, rfl⟩ | ⟨go, co, rfl, hgo, hrow⟩
      · have Hx := Lib.hid (show squeeze ts = [] by unfold squeeze; rw [HD.out]; rfl)
        go_wp2
        go_ret
        exact ⟨_, rfl, by rw [Hx.out]; exact hown, hB⟩
      · obtain ⟨d, hd⟩ : ∃ d, done.length = d := ⟨_, rfl⟩
        rw [hd]
        by_cases hd0 : d = 0
        · subst hd0
          obtain rfl : done = [] := List.length_eq_zero_iff.1 hd
          have Hx := Lib.hid (show squeeze ts = [] by unfold squeeze; rw [HD.out]; rfl)
          go_wp2
          go_ret
          exact ⟨_, rfl, by rw [Hx.out]; exact hown, hB⟩
        · obtain ⟨q, rfl⟩ : ∃ q, d = q + 1 := ⟨d - 1, by omega⟩
          obtain ⟨y, hy⟩ : ∃ y, done.getLast? = some y := ⟨_, List.getLast?_eq_some_getLast (by intro e; rw [e] at hd; simp at hd)⟩
          obtain ⟨b0, _, _⟩ := hrow.cells q y (last_cell hd hy)
          have hqw : IntKind.i64.wrap (((q + 1 : Nat) : Int) - 1) = (q : Int) := by rw [IntKind.wrap_i64]; omega
          have q0 : (0 : Int) ≤ (q : Int) := by omega
          have q1 : (q : Int) < ((q + 1 : Nat) : Int) := by omega
          have qp : (0 : Int) < ((q + 1 : Nat) : Int) := by omega
          have hco : ((q + 1 : Nat) : Int) ≤ (co : Int) := by have := hrow.room; omega
          have hqc : (q : Int) ≤ (co : Int) := by omega
          have hdl : done.dropLast.length = q := by rw [List.length_dropLast, hd]; rfl
          obtain ⟨D, hD⟩ : ∃ D : Nat, q + 1 = D := ⟨_, rfl⟩
          rw [hD] at hqw q1 qp hco hd ⊢
          rw [hd] at hown
          cases hyp : isSp y
          · have Hx := Lib.hid (show squeeze ts = done by unfold squeeze; rw [HD.out]; exact trim_else hy hyp)
            have h5y : (y.k == 5) = false := hyp
            clear hyp hy hD
            go_wp2
            go_ret
            exact ⟨_, rfl, by rw [Hx.out]; exact hown, hB⟩
          · have Hx := Lib.hid (show squeeze ts = done.dropLast by unfold squeeze; rw [HD.out]; exact trim_space hy hyp)
            have h5y : (y.k == 5) = true := hyp
            clear hyp hy hD
            go_wp2
            go_ret
            exact ⟨_, rfl, by rw [Hx.out]; exact Toks.cut (by rw [hd]; exact hown) hdl, hB⟩

end Go.Proofs.YtniemiofffecjaaDoor.B5
