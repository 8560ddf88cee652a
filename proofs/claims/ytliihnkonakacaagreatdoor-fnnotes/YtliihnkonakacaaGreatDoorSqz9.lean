/- Chapter 5 of the reference: l5Squeeze over a slice of tokens wherever it lies. -/
import Derived.Test.YtliihnkonakacaaGreatDoorBase5n
import Derived.Test.YtliihnkonakacaaGreatDoorImp5f
namespace Go.Proofs.YtliihnkonakacaaGreatDoor.B5
open Go.Proofs.YtliihnkonakacaaGreatDoor.P1 Go.Proofs.YtliihnkonakacaaGreatDoor.B1 Go.Proofs.YtliihnkonakacaaGreatDoor.B2 Go.Proofs.YtliihnkonakacaaGreatDoor.T1 Go.Proofs.YtliihnkonakacaaGreatDoor.BT Go.Proofs.YtliihnkonakacaaGreatDoor.P5 Go.Proofs.YtliihnkonakacaaGreatDoor.D1
open Go.ChangeShapes Go.WideShapes Go.ChangeAt Go.RowKit
set_option linter.unusedVariables false

set_option maxRecDepth 20000 in
set_option maxHeartbeats 4000000 in
theorem Squeeze_at (ts : List Tok) (n g off cap : Nat) (w : World) (hn : ts.length = n) (h : RC.At 3 w g off (tokRs ts)) (hroom : n ≤ cap) (hs : n ≤ 2000000) :
    Calls Tryz.prog 100 #[.slice (some ⟨g, off, none⟩) n cap] w (Squeezes (squeeze ts) w) := by
  obtain ⟨i0, hi, hz0, hz1, hz2⟩ := info_parts infoTok
  have HN := Lib.hid hn
  have HR := Lib.hid h
  have hnc : (n : Int) ≤ (cap : Int) := by omega
  have hs' : (n : Int) ≤ 2000000 := by omega
  clear hn h hroom
  go_enter Tryz.func100, Tryz.ntmps100
  go_wp2
  go_loopg [3, 4] n (fun kx s3 s4 wr => ∃ (i : Nat) (done : List Tok), s4 = .int .i64 (i : Int) ∧ kx + i = n ∧ Toks wr s3 w.heap.size done ∧ Hid (sqF true ts = done ++ sqF (lastSp done) (ts.drop i)) ∧ Below w.heap.size w wr)
  case atStart => exact ⟨0, [], rfl, by omega, World.ownsRow_lit w #[] 0 (Nat.le_refl _) (by decide) rfl, Lib.hid rfl, (Below.refl _ _).alloc (Nat.le_refl _) _⟩
  case round =>
    obtain ⟨i, done, rfl, hk, hown, I, hB⟩ := hrel
    have hfew : done.length ≤ n := by
      have h1 := sqF_len true ts
      rw [I.out, List.length_append, HN.out] at h1
      omega
    by_cases hlt : i < n
    · have hlt' : (i : Int) < (n : Int) := by omega
      have i0' : (0 : Int) ≤ (i : Int) := by omega
      obtain ⟨x, hx⟩ : ∃ x, ts[i]? = some x := ⟨_, List.getElem?_eq_getElem (by rw [HN.out]; exact hlt)⟩
      obtain ⟨c0, c1, c2⟩ := three_at (HR.out.on hB) hx
      have HX := Lib.hid hx
      clear hx
      cases hsp : isSp x
      · have HI := Lib.hid (sq_take HX.out (Or.inl hsp) I.out)
        have h5 : (x.k == 5) = false := hsp
        obtain ⟨k, t, n'⟩ := x
        dsimp only at c0 c1 c2 h5
        clear hsp
        go_wp2_with (at_builtin; refine wpList_append_own _ rfl _ _ 27 rfl w.heap.size 73 i0 _ 3 32 Tryz.underlying27 hi hz0 hz1 hz2 rfl (by decide) _ done.length (toksC done) rfl (World.ownsRow.alloc hown _) ⟨wr.heap.size, 0, none⟩ 1 1 [.int .i64 k, .string ⟨t.toArray⟩, .int .i64 n'] rfl rfl (cell_three_new _ _ _ _ _) (by simp [Value.oneCell']) (by simp [maxLen]; omega) (by omega) (by have := hB.size; simp; omega) ?_; intro v4 w4 hown4 hgrow4 _)
        go_roundg (n - (i + 1))
        case measure => omega
        case rel => exact ⟨i + 1, done ++ [⟨k, t, n'⟩], by go_num, by omega, toks_more hown4, HI, (hB.alloc hB.size _).grown hgrow4 (by have := hB.size; simp; omega) (fun k hk => (World.ownsRow.lt hown k hk).1)⟩
      · have h5 : (x.k == 5) = true := hsp
        have hown' := hown
        rcases Toks.row hown' with ⟨rfl, rfl⟩ | ⟨go, co, rfl, hgo, hrow⟩
        · have HI := Lib.hid (sq_skip HX.out hsp rfl I.out)
          clear hsp
          go_wp2
          go_roundg (n - (i + 1))
          case measure => omega
          case rel => exact ⟨i + 1, [], by go_num, by omega, hown, HI, hB⟩
        · obtain ⟨d, hd⟩ : ∃ d, done.length = d := ⟨_, rfl⟩
          rw [hd]
          by_cases hd0 : d = 0
          · subst hd0
            obtain rfl : done = [] := List.length_eq_zero_iff.1 hd
            have HI := Lib.hid (sq_skip HX.out hsp rfl I.out)
            clear hsp
            go_wp2
            go_roundg (n - (i + 1))
            case measure => omega
            case rel => exact ⟨i + 1, [], by go_num, by omega, hown, HI, hB⟩
          · obtain ⟨q, rfl⟩ : ∃ q, d = q + 1 := ⟨d - 1, by omega⟩
            obtain ⟨y, hy⟩ : ∃ y, done.getLast? = some y := ⟨_, List.getLast?_eq_some_getLast (by intro e; rw [e] at hd; simp at hd)⟩
            obtain ⟨b0, _, _⟩ := hrow.cells q y (last_cell hd hy)
            have hdne : (((q + 1 : Nat) : Int) == 0) = false := by rw [beq_eq_false_iff_ne]; omega
            have hqw : IntKind.i64.wrap (((q + 1 : Nat) : Int) - 1) = (q : Int) := by rw [IntKind.wrap_i64]; omega
            have q0 : (0 : Int) ≤ (q : Int) := by omega
            have q1 : (q : Int) < ((q + 1 : Nat) : Int) := by omega
            have hco : ((q + 1 : Nat) : Int) ≤ (co : Int) := by have := hrow.room; omega
            have hls : lastSp done = isSp y := by unfold lastSp; rw [hy]
            obtain ⟨D, hD⟩ : ∃ D : Nat, q + 1 = D := ⟨_, rfl⟩
            rw [hD] at hdne hqw q1 hco hd ⊢
            cases hyp : isSp y
            · have HI := Lib.hid (sq_take HX.out (Or.inr (hls.trans hyp)) I.out)
              have h5y : (y.k == 5) = false := hyp
              rw [hd] at hown
              obtain ⟨k, t, n'⟩ := x
              dsimp only at c0 c1 c2 h5
              clear hsp hyp hls hy hD
              go_wp2_with (at_builtin; refine wpList_append_own _ rfl _ _ 27 rfl w.heap.size 73 i0 _ 3 32 Tryz.underlying27 hi hz0 hz1 hz2 rfl (by decide) _ D (toksC done) rfl (World.ownsRow.alloc (ownD hown hd) _) ⟨wr.heap.size, 0, none⟩ 1 1 [.int .i64 k, .string ⟨t.toArray⟩, .int .i64 n'] rfl rfl (cell_three_new _ _ _ _ _) (by simp [Value.oneCell']) (by simp [maxLen]; omega) (by omega) (by have := hB.size; simp; omega) ?_; intro v4 w4 hown4 hgrow4 _)
              go_roundg (n - (i + 1))
              case measure => omega
              case rel => exact ⟨i + 1, done ++ [⟨k, t, n'⟩], by go_num, by omega, toks_more (by rw [hd]; exact hown4), HI, (hB.alloc hB.size _).grown hgrow4 (by have := hB.size; simp; omega) (fun k hk => (World.ownsRow.lt (ownD hown hd) k hk).1)⟩
            · have HI := Lib.hid (sq_skip HX.out hsp (hls.trans hyp) I.out)
              have h5y : (y.k == 5) = true := hyp
              clear hsp hyp hls hy hD
              go_wp2
              go_roundg (n - (i + 1))
              case measure => omega
              case rel => exact ⟨i + 1, done, by go_num, by omega, by rw [hd] at hown; exact hown, HI, hB⟩
    · have hlt' : ¬ (i : Int) < (n : Int) := by omega
      have HD := Lib.hid (show sqF true ts = done by rw [I.out, List.drop_of_length_le (by rw [HN.out]; omega)]; simp [sqF])
      have hown' := hown
      rcases Toks.row hown' with ⟨rfl, rfl⟩ | ⟨go, co, rfl, hgo, hrow⟩
      · have Hx := Lib.hid (show squeeze ts = [] by unfold squeeze; rw [HD.out]; rfl)
        go_wp2
        go_ret
        exact ⟨_, rfl, by rw [Hx.out]; exact hown, hB⟩
      · obtain ⟨d, hd⟩ : ∃ d, done.length = d := ⟨_, rfl⟩
        rw [hd]
        by_cases hd0 : d = 0
        · subst hd0
          obtain rfl : done = [] := List.length_eq_zero_iff.1 hd
          have Hx := Lib.hid (show squeeze ts = [] by unfold squeeze; rw [HD.out]; rfl)
          go_wp2
          go_ret
          exact ⟨_, rfl, by rw [Hx.out]; exact hown, hB⟩
        · obtain ⟨q, rfl⟩ : ∃ q, d = q + 1 := ⟨d - 1, by omega⟩
          obtain ⟨y, hy⟩ : ∃ y, done.getLast? = some y := ⟨_, List.getLast?_eq_some_getLast (by intro e; rw [e] at hd; simp at hd)⟩
          obtain ⟨b0, _, _⟩ := hrow.cells q y (last_cell hd hy)
          have hqw : IntKind.i64.wrap (((q + 1 : Nat) : Int) - 1) = (q : Int) := by rw [IntKind.wrap_i64]; omega
          have q0 : (0 : Int) ≤ (q : Int) := by omega
          have q1 : (q : Int) < ((q + 1 : Nat) : Int) := by omega
          have qp : (0 : Int) < ((q + 1 : Nat) : Int) := by omega
          have hco : ((q + 1 : Nat) : Int) ≤ (co : Int) := by have := hrow.room; omega
          have hqc : (q : Int) ≤ (co : Int) := by omega
          have hdl : done.dropLast.length = q := by rw [List.length_dropLast, hd]; rfl
          obtain ⟨D, hD⟩ : ∃ D : Nat, q + 1 = D := ⟨_, rfl⟩
          rw [hD] at hqw q1 qp hco hd ⊢
          rw [hd] at hown
          cases hyp : isSp y
          · have Hx := Lib.hid (show squeeze ts = done by unfold squeeze; rw [HD.out]; exact trim_else hy hyp)
            have h5y : (y.k == 5) = false := hyp
            clear hyp hy hD
            go_wp2
            go_ret
            exact ⟨_, rfl, by rw [Hx.out]; exact hown, hB⟩
          · have Hx := Lib.hid (show squeeze ts = done.dropLast by unfold squeeze; rw [HD.out]; exact trim_space hy hyp)
            have h5y : (y.k == 5) = true := hyp
            clear hyp hy hD
            go_wp2
            go_ret
            exact ⟨_, rfl, by rw [Hx.out]; exact Toks.cut (by rw [hd]; exact hown) hdl, hB⟩

theorem Squeeze_none (a : Option Addr) (cap : Nat) (w : World) : Calls Tryz.prog 100 #[.slice a 0 cap] w (Squeezes [] w) := by
  go_enter Tryz.func100, Tryz.ntmps100
  go_wp2
  go_loop [3, 4] (fun s3 s4 => s3 = .slice (some ⟨w.heap.size, 0, none⟩) 0 0 ∧ s4 = .int .i64 0) (fun _ _ => 0)
  case atStart => exact ⟨rfl, rfl⟩
  case round =>
    obtain ⟨rfl, rfl⟩ := hrel
    go_wp2
    go_ret
    exact ⟨_, rfl, World.ownsRow_lit w #[] 0 (Nat.le_refl _) (by decide) rfl, (Below.refl _ _).alloc (Nat.le_refl _) _⟩

theorem SqzS_slc (ts : List Tok) (v : Value) (w : World) (h : TokSlc w v ts) (hs : ts.length ≤ 1500000) :
    Calls Tryz.prog 100 #[v] w (Squeezes (squeeze ts) w) := by
  obtain ⟨a, cap, rfl, hnc, hcap, HA⟩ := h.form
  by_cases hne : ts = []
  · subst hne
    exact Squeeze_none a cap w
  · obtain ⟨g, off, rfl, hat⟩ := HA hne
    exact Squeeze_at ts _ g off cap w rfl hat hnc (by omega)

end Go.Proofs.YtliihnkonakacaaGreatDoor.B5
